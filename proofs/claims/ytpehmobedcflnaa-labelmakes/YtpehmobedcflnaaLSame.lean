/- The document's SameTexts, SameLabels: true of slices that hold the same; they change nothing but the count of draws. Condition: the slices hold what is said of them. -/
import Derived.Test.YtpehmobedcflnaaLCopy
namespace Go.Proofs.Ytpehmobedcflnaa
open Go.RowKit
set_option linter.unusedSimpArgs false

set_option maxHeartbeats 1000000 in
theorem SameTexts_calls (a : Option Addr) (cap : Nat) (b : Option Addr) (cap' : Nat) (V : List ByteArray) (w : World) (hA : Hid (StrsAt w a V)) (hB : Hid (StrsAt w b V)) : Calls Try.prog 31 #[.slice a V.length cap, .slice b V.length cap'] w fun e w' => e = .returned (.bool true) ∧ ∃ n, w' = w.drewN n := by
  have hlen := hA.out.1
  have hne : ((V.length : Int) != (V.length : Int)) = false := by simp
  go_enter Try.func31, Try.ntmps31
  go_wp2
  go_loopw [5] (fun i wr => ∃ k : Nat, k ≤ V.length ∧ i = .int .i64 k ∧ ∃ n, wr = w.drewN n) (fun i _ => V.length - (intOf i).toNat)
  case atStart => exact ⟨0, Nat.zero_le _, rfl, 0, rfl⟩
  case round =>
    obtain ⟨k, hk, rfl, n, rfl⟩ := hrel
    by_cases hlt : k < V.length
    · obtain ⟨B, off, rfl, hB1, c0, s0⟩ := hA.out.get hlt
      obtain ⟨B', off', rfl, hB2, c1, s1⟩ := hB.out.get hlt
      generalize V.getD k default = x at c0 c1 s0 s1
      have hx : (!(x.toList == x.toList)) = false := by simp
      go_wp2_with fail
      go_quiet (fail)
      go_wp2_with fail
      go_roundw
      case rel => exact ⟨k + 1, by omega, by go_num, _, rfl⟩
      case measure => simp [intOf]; omega
    · go_wp2
      go_ret
      exact ⟨rfl, _, rfl⟩

set_option maxHeartbeats 1000000 in
theorem SameLabels_calls (a : Option Addr) (cap : Nat) (b : Option Addr) (cap' : Nat) (L : List Lab) (w : World) (hA : Hid (LabsAt w a L)) (hB : Hid (LabsAt w b L)) : Calls Try.prog 17 #[.slice a L.length cap, .slice b L.length cap'] w fun e w' => e = .returned (.bool true) ∧ ∃ n, w' = w.drewN n := by
  have hlen := hA.out.1
  have hne : ((L.length : Int) != (L.length : Int)) = false := by simp
  go_enter Try.func17, Try.ntmps17
  go_wp2
  go_loopw [5] (fun i wr => ∃ k : Nat, k ≤ L.length ∧ i = .int .i64 k ∧ ∃ n, wr = w.drewN n) (fun i _ => L.length - (intOf i).toNat)
  case atStart => exact ⟨0, Nat.zero_le _, rfl, 0, rfl⟩
  case round =>
    obtain ⟨k, hk, rfl, n, rfl⟩ := hrel
    by_cases hlt : k < L.length
    · obtain ⟨B, off, rfl, hB1, c0, c1, s0, s1⟩ := hA.out.get hlt
      obtain ⟨B', off', rfl, hB2, e0, e1, _, _⟩ := hB.out.get hlt
      generalize L.getD k default = x at c0 c1 s0 s1 e0 e1
      go_wp2_with fail
      go_quiet (fail)
      go_wp2_with fail
      go_roundw
      case rel => exact ⟨k + 1, by omega, by go_num, _, rfl⟩
      case measure => simp [intOf]; omega
    · go_wp2
      go_ret
      exact ⟨rfl, _, rfl⟩
end Go.Proofs.Ytpehmobedcflnaa
