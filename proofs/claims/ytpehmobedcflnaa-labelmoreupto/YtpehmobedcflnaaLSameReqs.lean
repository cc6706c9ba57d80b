/- The document's SameReqs: true of slices that hold the same; it changes nothing but the count of draws. Condition: the slices hold what is said of them. -/
import Derived.Test.YtpehmobedcflnaaLReqsLoop
namespace Go.Proofs.Ytpehmobedcflnaa
open Go.RowKit
set_option linter.unusedSimpArgs false

set_option maxHeartbeats 2000000 in
theorem SameReqs_calls (a : Option Addr) (cap : Nat) (b : Option Addr) (cap' : Nat) (R : List Ask) (w : World) (hA : Hid (AsksAt w a R)) (hB : Hid (AsksAt w b R)) : Calls Try.prog 18 #[.slice a R.length cap, .slice b R.length cap'] w fun e w' => e = .returned (.bool true) ∧ ∃ n, w' = w.drewN n := by
  have hlen := hA.out.1
  have hne : ((R.length : Int) != (R.length : Int)) = false := by simp
  go_enter Try.func18, Try.ntmps18
  go_wp2
  go_loopw [5] (fun i wr => ∃ k : Nat, k ≤ R.length ∧ i = .int .i64 k ∧ Hid (∃ n, wr = w.drewN n)) (fun i _ => R.length - (intOf i).toNat)
  case atStart => exact ⟨0, Nat.zero_le _, rfl, ⟨0, rfl⟩⟩
  case round =>
    obtain ⟨k, hk, rfl, hwr⟩ := hrel
    have hbel : Below w.heap.size w wr := by obtain ⟨n, rfl⟩ := hwr.out; exact below_drewN (Below.refl _ _) _
    by_cases hlt : k < R.length
    · obtain ⟨B, off, rfl, hB1, c0, c1, ⟨a1, k1, c2, hv1⟩, s0⟩ := hA.out.get hlt
      obtain ⟨B', off', rfl, hB2, e0, e1, ⟨a2, k2, e2, hv2⟩, _⟩ := hB.out.get hlt
      have d0 := (hbel.cell (p := ⟨B, off + k * 3, none⟩) hB1).trans c0
      have d1 := (hbel.cell (p := ⟨B, off + k * 3 + 1, none⟩) hB1).trans c1
      have d2 := (hbel.cell (p := ⟨B, off + k * 3 + 2, none⟩) hB1).trans c2
      have g0 := (hbel.cell (p := ⟨B', off' + k * 3, none⟩) hB2).trans e0
      have g1 := (hbel.cell (p := ⟨B', off' + k * 3 + 1, none⟩) hB2).trans e1
      have g2 := (hbel.cell (p := ⟨B', off' + k * 3 + 2, none⟩) hB2).trans e2
      have HM : Hid (∀ m, Calls Try.prog 31 #[.slice a1 (R.getD k default).vals.length k1, .slice a2 (R.getD k default).vals.length k2] (wr.drewN m) fun e w' => e = .returned (.bool true) ∧ ∃ q, w' = (wr.drewN m).drewN q) :=
        fun m => SameTexts_calls a1 k1 a2 k2 _ _ (hv1.on (below_drewN hbel _)) (hv2.on (below_drewN hbel _))
      clear hv1 hv2 c0 c1 c2 e0 e1 e2
      generalize R.getD k default = r at d0 d1 d2 s0 g0 g1 g2 HM
      have hx : (!(r.key.toList == r.key.toList)) = false := by simp
      have ho : (r.op != r.op) = false := by simp
      go_wp2_with fail
      go_quiet ((go_at_call 31; exact Calls.quiet_of (HM.out _)))
      go_wp2_with fail
      go_roundw
      case rel => exact ⟨k + 1, by omega, by go_num, by obtain ⟨n, rfl⟩ := hwr.out; exact ⟨_, World.drewN_drewN _ _ _⟩⟩
      case measure => simp [intOf]; omega
    · go_wp2
      go_ret
      exact ⟨rfl, hwr.out⟩
end Go.Proofs.Ytpehmobedcflnaa
