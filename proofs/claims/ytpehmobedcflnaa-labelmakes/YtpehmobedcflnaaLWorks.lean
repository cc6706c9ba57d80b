/- The chapter's example comes out (the law's function works returns true), and nothing that was there turns. No condition. -/
import Derived.Test.YtpehmobedcflnaaLMake
import Derived.Test.YtpehmobedcflnaaLMatch
namespace Go.Proofs.Ytpehmobedcflnaa
open Go.RowKit
set_option linter.unusedSimpArgs false

abbrev tZone : ByteArray := ⟨#[122, 111, 110, 101]⟩
abbrev tX : ByteArray := ⟨#[120]⟩
abbrev tY : ByteArray := ⟨#[121]⟩
abbrev tA : ByteArray := ⟨#[97]⟩
abbrev tB : ByteArray := ⟨#[98]⟩
abbrev t0 : ByteArray := ⟨#[48]⟩
abbrev t1 : ByteArray := ⟨#[49]⟩
abbrev exL : List Lab := [(tA, t1), (tZone, tX)]

theorem strs_new1 (u : World) (t : TypeId) (x : ByteArray) (hx : x.size ≤ 140737488355328) : StrsAt (u.alloc (.cells #[.string x] t)) (some ⟨u.heap.size, 0, none⟩) [x] := by
  refine ⟨by simp, by simpa using hx, fun _ => ⟨u.heap.size, 0, rfl, by simp, fun i hi => ?_⟩⟩
  have : i = 0 := by simpa using hi
  subst this
  simp [go_sem]
theorem strs_new2 (u : World) (t : TypeId) (x y : ByteArray) (hx : x.size ≤ 140737488355328) (hy : y.size ≤ 140737488355328) : StrsAt (u.alloc (.cells #[.string x, .string y] t)) (some ⟨u.heap.size, 0, none⟩) [x, y] := by
  refine ⟨by simp, by simpa using ⟨hx, hy⟩, fun _ => ⟨u.heap.size, 0, rfl, by simp, fun i hi => ?_⟩⟩
  have : i = 0 ∨ i = 1 := by simp at hi; omega
  rcases this with rfl | rfl <;> simp [go_sem]
theorem strs_new4 (u : World) (t : TypeId) (x y z v : ByteArray) (hs : ∀ s ∈ [x, y, z, v], s.size ≤ 140737488355328) : StrsAt (u.alloc (.cells #[.string x, .string y, .string z, .string v] t)) (some ⟨u.heap.size, 0, none⟩) [x, y, z, v] := by
  refine ⟨by simp, hs, fun _ => ⟨u.heap.size, 0, rfl, by simp, fun i hi => ?_⟩⟩
  have : i = 0 ∨ i = 1 ∨ i = 2 ∨ i = 3 := by simp at hi; omega
  rcases this with rfl | rfl | rfl | rfl <;> simp [go_sem]

theorem ex_check : checkI exL = 0 := by kernel_rfl
theorem ex_perm : exL.Perm (pairsTo [tZone, tX, tA, t1] ([tZone, tX, tA, t1].length / 2)) := by
  have : pairsTo [tZone, tX, tA, t1] ([tZone, tX, tA, t1].length / 2) = [(tZone, tX), (tA, t1)] := by kernel_rfl
  rw [this]
  exact List.Perm.swap _ _ _
theorem ex_sorted : SortedK exL := by
  have : sLt tZone tA = false := by kernel_rfl
  simp [SortedK, this]
theorem ex_m1 : meetsL exL ⟨tZone, 1, [tX, tY]⟩ = true := by kernel_rfl
theorem ex_m2 : meetsL exL ⟨tA, 5, [t0]⟩ = true := by kernel_rfl
theorem ex_m3 : meetsL exL ⟨tB, 2, [t1]⟩ = true := by kernel_rfl
theorem ex_m4 : meetsL exL ⟨tB, 3, []⟩ = false := by kernel_rfl

set_option maxHeartbeats 2000000 in
theorem works_calls (w : World) : Calls Try.prog 19 #[] w fun e w' => e = .returned (.bool true) ∧ Below w.heap.size w w' := by
  have hb0 : Below w.heap.size w (w.alloc (.cells #[.string tZone, .string tX, .string tA, .string t1] 9)) := by go_grown
  have hmk := Make_calls (some ⟨w.heap.size, 0, none⟩) 4 [tZone, tX, tA, t1] (w.alloc (.cells #[.string tZone, .string tX, .string tA, .string t1] 9)) exL (strs_new4 w _ _ _ _ _ (by decide)) (by decide) rfl ex_perm ex_sorted
  have hmk' : Calls Try.prog 29 #[.slice (some ⟨w.heap.size, 0, none⟩) 4 4] (w.alloc (.cells #[.string tZone, .string tX, .string tA, .string t1] 9)) (fun e w' => MadeAs (w.alloc (.cells #[.string tZone, .string tX, .string tA, .string t1] 9)) exL e w') := hmk
  clear hmk
  go_enter Try.func19, Try.ntmps19
  go_wp2_with fail
  refine hmk'.mono ?_
  rintro e w1 ⟨hb1, ⟨hn, _⟩ | ⟨_, a, cap, rfl, hL⟩⟩
  · exact absurd ex_check hn
  have hbw := on2 hb0 hb1
  clear hb0 hb1 hmk'
  obtain ⟨B, off, rfl, hB, c0, _⟩ := hL.get (k := 0) (by decide)
  simp only [Nat.zero_mul, Nat.add_zero] at c0
  have c0' : w1.cell? ⟨B, off, none⟩ = some (.string tA) := c0
  clear c0
  have hLo : Hid (∀ {u : World}, Below w1.heap.size w1 u → LabsAt u (some ⟨B, off, none⟩) exL) := fun hb => hL.on hb
  have hm1 : Hid (∀ u b, LabsAt u (some ⟨B, off, none⟩) exL → StrsAt u b [tX, tY] → Calls Try.prog 26 #[.slice (some ⟨B, off, none⟩) 2 cap, .agg #[.string tZone, .int .i64 1, .slice b 2 2]] u fun e w' => e = .returned (.bool true) ∧ Below u.heap.size u w') := fun u b h1 h2 => by
    have := Meets_calls (some ⟨B, off, none⟩) cap exL tZone 1 b 2 [tX, tY] u h1 h2
    rw [ex_m1] at this; exact this
  have hm2 : Hid (∀ u b, LabsAt u (some ⟨B, off, none⟩) exL → StrsAt u b [t0] → Calls Try.prog 26 #[.slice (some ⟨B, off, none⟩) 2 cap, .agg #[.string tA, .int .i64 5, .slice b 1 1]] u fun e w' => e = .returned (.bool true) ∧ Below u.heap.size u w') := fun u b h1 h2 => by
    have := Meets_calls (some ⟨B, off, none⟩) cap exL tA 5 b 1 [t0] u h1 h2
    rw [ex_m2] at this; exact this
  have hm3 : Hid (∀ u b, LabsAt u (some ⟨B, off, none⟩) exL → StrsAt u b [t1] → Calls Try.prog 26 #[.slice (some ⟨B, off, none⟩) 2 cap, .agg #[.string tB, .int .i64 2, .slice b 1 1]] u fun e w' => e = .returned (.bool true) ∧ Below u.heap.size u w') := fun u b h1 h2 => by
    have := Meets_calls (some ⟨B, off, none⟩) cap exL tB 2 b 1 [t1] u h1 h2
    rw [ex_m3] at this; exact this
  have hm4 : Hid (∀ u, LabsAt u (some ⟨B, off, none⟩) exL → Calls Try.prog 26 #[.slice (some ⟨B, off, none⟩) 2 cap, .agg #[.string tB, .int .i64 3, .slice none 0 0]] u fun e w' => e = .returned (.bool false) ∧ Below u.heap.size u w') := fun u h1 => by
    have := Meets_calls (some ⟨B, off, none⟩) cap exL tB 3 none 0 [] u h1 (StrsAt.nil u none)
    rw [ex_m4] at this; exact this
  clear hL
  go_wp2_with fail
  refine (hm1.out _ _ (hLo.out (by go_grown)) (strs_new2 _ _ _ _ (by decide) (by decide))).mono ?_
  rintro e w2 ⟨rfl, hb2⟩
  have hs2 : Below w1.heap.size w1 w2 := on2 (by go_grown) hb2
  clear hb2 hm1
  go_wp2_with fail
  refine (hm2.out _ _ (hLo.out (on2 hs2 (by go_grown))) (strs_new1 _ _ _ (by decide))).mono ?_
  rintro e w3 ⟨rfl, hb3⟩
  have hs3 : Below w1.heap.size w1 w3 := on2 hs2 (on2 (by go_grown) hb3)
  clear hb3 hm2 hs2
  go_wp2_with fail
  refine (hm3.out _ _ (hLo.out (on2 hs3 (by go_grown))) (strs_new1 _ _ _ (by decide))).mono ?_
  rintro e w4 ⟨rfl, hb4⟩
  have hs4 : Below w1.heap.size w1 w4 := on2 hs3 (on2 (by go_grown) hb4)
  clear hb4 hm3 hs3
  go_wp2_with fail
  refine (hm4.out _ (hLo.out hs4)).mono ?_
  rintro e w5 ⟨rfl, hb5⟩
  have hs5 : Below w.heap.size w w5 := on2 hbw (on2 hs4 hb5)
  clear hb5 hm4 hs4 hLo
  go_wp2_with fail
  go_ret
  exact ⟨rfl, hs5⟩
end Go.Proofs.Ytpehmobedcflnaa
