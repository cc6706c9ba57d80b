/- taint.Kept and taint.Shy return what the plain functions say, and change nothing that was there. Condition: the slices hold what is said of them. -/
import Derived.Test.YtgffnkfiecieeaaTBorne
namespace Go.Proofs.Ytgffnkfiecieeaa
open Go.RowKit
set_option linter.unusedSimpArgs false

theorem ret_tb {x y : Tnt} {b c : Bool} (h : x = y ∧ b = c) : Ending.returned (.tuple #[.agg #[.string x.1, .string x.2.1, .int .i64 x.2.2], .bool b]) = .returned (.tuple #[.agg #[.string y.1, .string y.2.1, .int .i64 y.2.2], .bool c]) := by rw [h.1, h.2]
theorem keptT_no {L : List Tnt} {B : List Bear} (h : ∀ j, j < L.length → openT 1 B (L.getD j default) = false) : keptT L B = (default, false) := by
  unfold keptT; rw [find_no h]
theorem keptT_yes {L : List Tnt} {B : List Bear} {k : Nat} (hk : k < L.length) (h : ∀ j, j < k → openT 1 B (L.getD j default) = false) (hy : openT 1 B (L.getD k default) = true) : keptT L B = (L.getD k default, true) := by
  unfold keptT; rw [find_yes hk h hy]
theorem wrap_nat {n : Nat} (h : n ≤ 140737488355328) : IntKind.i64.wrap ((n : Int) + 1) = ((n + 1 : Nat) : Int) := by simp [IntKind.wrap, IntKind.bits, IntKind.signed]; omega

set_option maxHeartbeats 2000000 in
theorem Kept_calls (a : Option Addr) (cap : Nat) (L : List Tnt) (b : Option Addr) (capb : Nat) (B : List Bear) (w : World) (hL : Hid (TntsAt w a L)) (hB : Hid (BearsAt w b B)) :
    Calls Try.prog 15 #[.slice a L.length cap, .slice b B.length capb] w fun e w' => e = .returned (.tuple #[.agg #[.string (keptT L B).1.1, .string (keptT L B).1.2.1, .int .i64 (keptT L B).1.2.2], .bool (keptT L B).2]) ∧ Below w.heap.size w w' := by
  have hb0 : Below w.heap.size w (w.alloc (.cells #[.string ⟨#[]⟩, .string ⟨#[]⟩, .int .i64 0] 32)) := by go_grown
  have hD := BoxT.new w 32 (⟨#[]⟩, ⟨#[]⟩, 0)
  have hL' : Hid (∀ {u : World}, Below w.heap.size w u → TntsAt u a L) := fun h => hL.out.on h
  have hU := unborne_calls 1 b capb B (w.alloc (.cells #[.string ⟨#[]⟩, .string ⟨#[]⟩, .int .i64 0] 32)) (hB.out.on hb0)
  clear hL hB
  go_enter Try.func15, Try.ntmps15
  go_wp2_with fail
  refine hU.mono ?_
  rintro e w1 ⟨lb, rfl, hP, hb1⟩
  have hI := IndexT_calls a cap L w1 (hL'.out (on2 hb0 hb1)) (openT 1 B) 37 lb enters37 hP
  clear hU hP
  go_wp2_with fail
  refine hI.mono ?_
  rintro e w2 ⟨h, hb2⟩
  have hb2' := on2 (on2 hb0 hb1) hb2
  obtain ⟨hDl, ⟨c0, c1, c2⟩, f0, f1, f2⟩ := hD.on (on2 hb1 hb2)
  clear hI hb2 hb1 hb0 hD
  rcases h with ⟨i, hi, hy, hn, rfl⟩ | ⟨hn, rfl⟩
  · have HK : Hid (keptT L B = (L.getD i default, true)) := keptT_yes hi hn hy
    obtain ⟨BB, off, rfl, hBB, d0, d1, d2, _⟩ := TntsAt.get (hL'.out hb2') hi
    have hBn : Hid (BB < w.heap.size) := by
      have := TntsAt.get (hL'.out (Below.refl _ w)) hi
      obtain ⟨B2, off2, e2, hB2, _⟩ := this
      obtain ⟨rfl, _⟩ : BB = B2 ∧ off = off2 := by simpa using e2
      exact hB2
    clear hy hn hL'
    generalize L.getD i default = x at HK d0 d1 d2
    have hne : BB ≠ w.heap.size := by have := hBn.out; omega
    go_wp2_with fail
    refine bodyPost_ret (v := .tuple #[.agg #[.string x.1, .string x.2.1, .int .i64 x.2.2], .bool true]) (by simp [results, Try.results15, go_sem, c0, c1, c2, hDl]) rfl ⟨ret_tb (x := x) (by rw [HK.out]; exact ⟨rfl, rfl⟩), ?_⟩
    exact ((hb2'.setCell (Nat.le_refl _) _).setCell (Nat.le_refl _) _).setCell (Nat.le_refl _) _
  · have HK : Hid (keptT L B = (default, false)) := keptT_no hn
    clear hn hL'
    go_wp2_with fail
    refine bodyPost_ret (v := .tuple #[.agg #[.string ⟨#[]⟩, .string ⟨#[]⟩, .int .i64 0], .bool false]) (by simp [results, Try.results15, go_sem, c0, c1, c2, hDl]) rfl ⟨ret_tb (x := (⟨#[]⟩, ⟨#[]⟩, 0)) (by rw [HK.out]; exact ⟨rfl, rfl⟩), ?_⟩
    exact ((hb2'.setCell (Nat.le_refl _) _).setCell (Nat.le_refl _) _).setCell (Nat.le_refl _) _

set_option maxHeartbeats 2000000 in
theorem Shy_calls (a : Option Addr) (cap : Nat) (L : List Tnt) (b : Option Addr) (capb : Nat) (B : List Bear) (w : World) (hL : Hid (TntsAt w a L)) (hB : Hid (BearsAt w b B)) :
    Calls Try.prog 17 #[.slice a L.length cap, .slice b B.length capb] w fun e w' => e = .returned (.int .i64 (shyN L B : Nat)) ∧ Below w.heap.size w w' := by
  have hlen := hL.out.1
  have hU := unborne_calls 2 b capb B w hB
  have eg := enters37
  clear hB
  go_enter Try.func17, Try.ntmps17
  go_wp2_with fail
  refine hU.mono ?_
  rintro e w1 ⟨lb, rfl, hP, hb1⟩
  have hP' : Hid (PredT 37 lb (openT 2 B) w1) := hP
  clear hP hU
  go_wp2_with fail
  go_loopw [6, 13] (fun s i wr => ∃ k : Nat, k ≤ L.length ∧ i = .int .i64 k ∧ s = .int .i64 ((L.take k).countP (openT 2 B) : Nat) ∧ Below w1.heap.size w1 wr) (fun _ i _ => L.length - (intOf i).toNat)
  case atStart => exact ⟨0, Nat.zero_le _, rfl, rfl, Below.refl _ _⟩
  case round =>
    obtain ⟨k, hk, rfl, rfl, hbel⟩ := hrel
    by_cases hlt : k < L.length
    · obtain ⟨BB, off, rfl, hBB, c0, c1, c2, ho⟩ := TntsAt.get hL.out hlt
      clear ho
      have hbw := on2 hb1 hbel
      have d0 := (hbw.cell (p := ⟨BB, off + k * 3, none⟩) hBB).trans c0
      have d1 := (hbw.cell (p := ⟨BB, off + k * 3 + 1, none⟩) hBB).trans c1
      have d2 := (hbw.cell (p := ⟨BB, off + k * 3 + 2, none⟩) hBB).trans c2
      clear c0 c1 c2
      have hcs := count_step (p := openT 2 B) hlt
      have hcl : (L.take k).countP (openT 2 B) ≤ k := count_le
      obtain ⟨m, hm⟩ : ∃ m, (L.take k).countP (openT 2 B) = m := ⟨_, rfl⟩
      have hcall := hP'.out (wr.alloc (.cells #[.string (L.getD k default).1, .string (L.getD k default).2.1, .int .i64 (L.getD k default).2.2] 32)) (L.getD k default) (on2 hbel (by go_grown))
      rw [hm] at hcs hcl ⊢
      have hwr := wrap_nat (n := m) (by omega)
      cases hq : openT 2 B (L.getD k default)
      · rw [hq] at hcs hcall
        have HC : Hid ((L.take (k + 1)).countP (openT 2 B) = m) := hcs
        clear hq hcs hm
        generalize L.getD k default = x at d0 d1 d2 hcall
        go_wp2_with fail
        refine hcall.mono ?_
        rintro e w2 ⟨rfl, hb2⟩
        go_wp2_with fail
        go_roundw
        case rel => exact ⟨k + 1, by omega, by go_num, by rw [HC.out], on2 hbel (on2 (by go_grown) hb2)⟩
        case measure => simp [intOf]; omega
      · rw [hq] at hcs hcall
        have HC : Hid ((L.take (k + 1)).countP (openT 2 B) = m + 1) := hcs
        clear hq hcs hm
        generalize L.getD k default = x at d0 d1 d2 hcall
        go_wp2_with fail
        refine hcall.mono ?_
        rintro e w2 ⟨rfl, hb2⟩
        go_wp2_with fail
        go_roundw
        case rel => exact ⟨k + 1, by omega, by go_num, by rw [HC.out]; rfl, on2 hbel (on2 (by go_grown) hb2)⟩
        case measure => simp [intOf]; omega
    · have HC : Hid ((L.take k).countP (openT 2 B) = shyN L B) := by rw [Hid, shyN, List.take_of_length_le (by omega)]
      rw [HC.out]
      go_wp2_with fail
      go_ret
      exact ⟨rfl, on2 hb1 hbel⟩
end Go.Proofs.Ytgffnkfiecieeaa
