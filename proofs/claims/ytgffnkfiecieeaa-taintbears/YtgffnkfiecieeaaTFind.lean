/- slices.IndexFunc and slices.ContainsFunc at taints and at what is borne, with whatever function is handed in. Condition: the slice holds what is said of it, and the function answers as said. -/
import Derived.Test.YtgffnkfiecieeaaLLeaf
import Derived.Test.YtgffnkfiecieeaaTPlain
namespace Go.Proofs.Ytgffnkfiecieeaa
open Go.RowKit
set_option linter.unusedSimpArgs false

/-- What is asked of a function that tells taints: it answers p, and leaves all that was there. -/
def PredT (g : Nat) (lb : Array Value) (p : Tnt → Bool) (w : World) : Prop :=
  ∀ (W : World) (x : Tnt), Below w.heap.size w W → Calls Try.prog g (#[.agg #[.string x.1, .string x.2.1, .int .i64 x.2.2]] ++ lb) W fun e w' => e = .returned (.bool (p x)) ∧ Below W.heap.size W w'

set_option maxHeartbeats 2000000 in
theorem IndexT_calls (a : Option Addr) (cap : Nat) (L : List Tnt) (w : World) (hL : Hid (TntsAt w a L)) (p : Tnt → Bool) (g : Nat) (lb : Array Value) (eg : ∀ args w, (callFunc g args).run Try.prog w = .ok (.enter g args) w) (hp : Hid (PredT g lb p w)) :
    Calls Try.prog 28 #[.slice a L.length cap, .func (.func g) #[] lb] w fun e w' => ((∃ i : Nat, i < L.length ∧ p (L.getD i default) = true ∧ (∀ j, j < i → p (L.getD j default) = false) ∧ e = .returned (.int .i64 i)) ∨ ((∀ j, j < L.length → p (L.getD j default) = false) ∧ e = .returned (.int .i64 (-1)))) ∧ Below w.heap.size w w' := by
  have hlen := hL.out.1
  go_enter Try.func28, Try.ntmps28
  go_wp2
  go_loopw [8] (fun i wr => ∃ k : Nat, k ≤ L.length ∧ i = .int .i64 k ∧ Below w.heap.size w wr ∧ Hid (∀ j, j < k → p (L.getD j default) = false)) (fun i _ => L.length - (intOf i).toNat)
  case atStart => exact ⟨0, Nat.zero_le _, rfl, Below.refl _ _, fun j hj => absurd hj (Nat.not_lt_zero _)⟩
  case round =>
    obtain ⟨k, hk, rfl, hbel, hall⟩ := hrel
    by_cases hlt : k < L.length
    · obtain ⟨B, off, rfl, hB, c0, c1, c2, ho⟩ := TntsAt.get hL.out hlt
      clear ho
      have d0 := (hbel.cell (p := ⟨B, off + k * 3, none⟩) hB).trans c0
      have d1 := (hbel.cell (p := ⟨B, off + k * 3 + 1, none⟩) hB).trans c1
      have d2 := (hbel.cell (p := ⟨B, off + k * 3 + 2, none⟩) hB).trans c2
      clear c0 c1 c2
      have hcall := hp.out wr (L.getD k default) hbel
      have HG : Hid (p (L.getD k default) = false → ∀ j, j < k + 1 → p (L.getD j default) = false) := fun h j hj => by
        rcases Nat.lt_succ_iff_lt_or_eq.1 hj with h' | rfl
        · exact hall.out j h'
        · exact h
      have HF : Hid (p (L.getD k default) = true → ∃ i : Nat, i < L.length ∧ p (L.getD i default) = true ∧ (∀ j, j < i → p (L.getD j default) = false) ∧ Ending.returned (.int .i64 k) = .returned (.int .i64 i)) := fun h => ⟨k, hlt, h, hall.out, rfl⟩
      clear hall
      generalize L.getD k default = x at d0 d1 d2 hcall HG HF
      cases hq : p x
      · have HG' : Hid (∀ j, j < k + 1 → p (L.getD j default) = false) := HG.out hq
        rw [hq] at hcall
        clear HG HF hq
        go_wp2_with fail
        refine hcall.mono ?_
        rintro e w' ⟨rfl, hb'⟩
        go_wp2_with fail
        go_roundw
        case rel => exact ⟨k + 1, by omega, by go_num, on2 hbel hb', HG'⟩
        case measure => simp [intOf]; omega
      · have HF' := HF.out hq
        have HF2 : Hid (∃ i : Nat, i < L.length ∧ p (L.getD i default) = true ∧ (∀ j, j < i → p (L.getD j default) = false) ∧ Ending.returned (.int .i64 k) = .returned (.int .i64 i)) := HF'
        rw [hq] at hcall
        clear HG HF hq HF'
        go_wp2_with fail
        refine hcall.mono ?_
        rintro e w' ⟨rfl, hb'⟩
        go_wp2_with fail
        go_ret
        exact ⟨.inl HF2.out, on2 hbel hb'⟩
    · have HA : Hid (∀ j, j < L.length → p (L.getD j default) = false) := fun j hj => hall.out j (by omega)
      clear hall
      go_wp2
      go_ret
      exact ⟨.inr ⟨HA.out, rfl⟩, hbel⟩

theorem ContainsT_calls (a : Option Addr) (cap : Nat) (L : List Tnt) (w : World) (hL : Hid (TntsAt w a L)) (p : Tnt → Bool) (g : Nat) (lb : Array Value) (eg : ∀ args w, (callFunc g args).run Try.prog w = .ok (.enter g args) w) (hp : Hid (PredT g lb p w)) :
    Calls Try.prog 35 #[.slice a L.length cap, .func (.func g) #[] lb] w fun e w' => e = .returned (.bool (L.any p)) ∧ Below w.heap.size w w' := by
  have hI := IndexT_calls a cap L w hL p g lb eg hp
  go_enter Try.func35, Try.ntmps35
  go_wp2_with fail
  refine hI.mono ?_
  rintro e w1 ⟨⟨i, hi, hy, _, rfl⟩ | ⟨hn, rfl⟩, hb⟩
  · have HA : Hid (L.any p = true) := any_yes hi hy
    clear hy
    go_wp2_with fail
    go_ret
    exact ⟨retb HA.out.symm, hb⟩
  · have HA : Hid (L.any p = false) := any_no hn
    clear hn
    go_wp2_with fail
    go_ret
    exact ⟨retb HA.out.symm, hb⟩

/-- What is asked of a function that tells what is borne: it answers p, and leaves all that was there. -/
def PredB (g : Nat) (lb : Array Value) (p : Bear → Bool) (w : World) : Prop :=
  ∀ (W : World) (x : Bear), Below w.heap.size w W → Calls Try.prog g (#[.agg #[.string x.1, .string x.2.1, .bool x.2.2.1, .int .i64 x.2.2.2]] ++ lb) W fun e w' => e = .returned (.bool (p x)) ∧ Below W.heap.size W w'

set_option maxHeartbeats 2000000 in
theorem IndexB_calls (a : Option Addr) (cap : Nat) (L : List Bear) (w : World) (hL : Hid (BearsAt w a L)) (p : Bear → Bool) (g : Nat) (lb : Array Value) (eg : ∀ args w, (callFunc g args).run Try.prog w = .ok (.enter g args) w) (hp : Hid (PredB g lb p w)) :
    Calls Try.prog 43 #[.slice a L.length cap, .func (.func g) #[] lb] w fun e w' => ((∃ i : Nat, i < L.length ∧ p (L.getD i default) = true ∧ (∀ j, j < i → p (L.getD j default) = false) ∧ e = .returned (.int .i64 i)) ∨ ((∀ j, j < L.length → p (L.getD j default) = false) ∧ e = .returned (.int .i64 (-1)))) ∧ Below w.heap.size w w' := by
  have hlen := hL.out.1
  go_enter Try.func43, Try.ntmps43
  go_wp2
  go_loopw [8] (fun i wr => ∃ k : Nat, k ≤ L.length ∧ i = .int .i64 k ∧ Below w.heap.size w wr ∧ Hid (∀ j, j < k → p (L.getD j default) = false)) (fun i _ => L.length - (intOf i).toNat)
  case atStart => exact ⟨0, Nat.zero_le _, rfl, Below.refl _ _, fun j hj => absurd hj (Nat.not_lt_zero _)⟩
  case round =>
    obtain ⟨k, hk, rfl, hbel, hall⟩ := hrel
    by_cases hlt : k < L.length
    · obtain ⟨B, off, rfl, hB, c0, c1, c2, c3, ho⟩ := BearsAt.get hL.out hlt
      clear ho
      have d0 := (hbel.cell (p := ⟨B, off + k * 4, none⟩) hB).trans c0
      have d1 := (hbel.cell (p := ⟨B, off + k * 4 + 1, none⟩) hB).trans c1
      have d2 := (hbel.cell (p := ⟨B, off + k * 4 + 2, none⟩) hB).trans c2
      have d3 := (hbel.cell (p := ⟨B, off + k * 4 + 3, none⟩) hB).trans c3
      clear c0 c1 c2 c3
      have hcall := hp.out wr (L.getD k default) hbel
      have HG : Hid (p (L.getD k default) = false → ∀ j, j < k + 1 → p (L.getD j default) = false) := fun h j hj => by
        rcases Nat.lt_succ_iff_lt_or_eq.1 hj with h' | rfl
        · exact hall.out j h'
        · exact h
      have HF : Hid (p (L.getD k default) = true → ∃ i : Nat, i < L.length ∧ p (L.getD i default) = true ∧ (∀ j, j < i → p (L.getD j default) = false) ∧ Ending.returned (.int .i64 k) = .returned (.int .i64 i)) := fun h => ⟨k, hlt, h, hall.out, rfl⟩
      clear hall
      generalize L.getD k default = x at d0 d1 d2 d3 hcall HG HF
      cases hq : p x
      · have HG' : Hid (∀ j, j < k + 1 → p (L.getD j default) = false) := HG.out hq
        rw [hq] at hcall
        clear HG HF hq
        go_wp2_with fail
        refine hcall.mono ?_
        rintro e w' ⟨rfl, hb'⟩
        go_wp2_with fail
        go_roundw
        case rel => exact ⟨k + 1, by omega, by go_num, on2 hbel hb', HG'⟩
        case measure => simp [intOf]; omega
      · have HF' := HF.out hq
        have HF2 : Hid (∃ i : Nat, i < L.length ∧ p (L.getD i default) = true ∧ (∀ j, j < i → p (L.getD j default) = false) ∧ Ending.returned (.int .i64 k) = .returned (.int .i64 i)) := HF'
        rw [hq] at hcall
        clear HG HF hq HF'
        go_wp2_with fail
        refine hcall.mono ?_
        rintro e w' ⟨rfl, hb'⟩
        go_wp2_with fail
        go_ret
        exact ⟨.inl HF2.out, on2 hbel hb'⟩
    · have HA : Hid (∀ j, j < L.length → p (L.getD j default) = false) := fun j hj => hall.out j (by omega)
      clear hall
      go_wp2
      go_ret
      exact ⟨.inr ⟨HA.out, rfl⟩, hbel⟩

theorem ContainsB_calls (a : Option Addr) (cap : Nat) (L : List Bear) (w : World) (hL : Hid (BearsAt w a L)) (p : Bear → Bool) (g : Nat) (lb : Array Value) (eg : ∀ args w, (callFunc g args).run Try.prog w = .ok (.enter g args) w) (hp : Hid (PredB g lb p w)) :
    Calls Try.prog 40 #[.slice a L.length cap, .func (.func g) #[] lb] w fun e w' => e = .returned (.bool (L.any p)) ∧ Below w.heap.size w w' := by
  have hI := IndexB_calls a cap L w hL p g lb eg hp
  go_enter Try.func40, Try.ntmps40
  go_wp2_with fail
  refine hI.mono ?_
  rintro e w1 ⟨⟨i, hi, hy, _, rfl⟩ | ⟨hn, rfl⟩, hb⟩
  · have HA : Hid (L.any p = true) := any_yes hi hy
    clear hy
    go_wp2_with fail
    go_ret
    exact ⟨retb HA.out.symm, hb⟩
  · have HA : Hid (L.any p = false) := any_no hn
    clear hn
    go_wp2_with fail
    go_ret
    exact ⟨retb HA.out.symm, hb⟩
end Go.Proofs.Ytgffnkfiecieeaa
