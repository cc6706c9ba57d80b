/- ScorePicks, walked. Condition: what is handed in lies as is said of it. -/
import Derived.Test.YteihniiacfghoaaQ18
namespace Go.Proofs.Yteihniiacfghoaa
open Go.RowKit Go.Maps
set_option linter.unusedSimpArgs false
set_option maxRecDepth 100000

set_option maxHeartbeats 4000000 in
theorem picks_walk (a : Option Addr) (n cap : Nat) (s : List Int) (b : Option Addr) (m capb : Nat) (may : List Bool) (d : Int) (w : World) (hS : SlAt RInt 1 8 (fun _ => True) w a n cap s) (hM : SlAt RBool 1 1 (fun _ => True) w b m capb may) : Calls Try.prog 5 #[.slice a n cap, .slice b m capb, .int .i64 d] w fun e w' => e = .returned (.bool true) ∧ Below w.heap.size w w' := by
  have HS : Hid (SlAt RInt 1 8 (fun _ => True) w a n cap s) := hS
  have HM : Hid (SlAt RBool 1 1 (fun _ => True) w b m capb may) := hM
  have HLn : Hid (s.length = n ∧ n * 8 ≤ 140737488351232) := ⟨hS.1, hS.2.2.2.1⟩
  have hI := Ints_copy a n cap (fun _ => True) s w hS
  clear hS hM
  go_enter Try.func5, Try.ntmps5
  go_wp2_with fail
  refine hI.mono ?_
  rintro e w1 ⟨oa, oc, rfl, ho, b1⟩
  have HO : Hid (∀ z, Below w1.heap.size w1 z → SlAt RInt 1 8 (fun _ => True) z oa n oc s ∧ SlAt RInt 1 8 (fun _ => True) z a n cap s ∧ SlAt RBool 1 1 (fun _ => True) z b m capb may) := fun z hz => ⟨(ho.weak RInt.firm (fun _ _ _ => trivial)).on RInt.firm hz, HS.out.on RInt.firm (on2 b1 hz), HM.out.on RBool.firm (on2 b1 hz)⟩
  have HB1 : Hid (Below w.heap.size w w1) := b1
  have hA := Best_calls oa n oc (fun _ => True) s b m capb (fun _ => True) may w1 (HO.out w1 (Below.refl _ _)).1 (HO.out w1 (Below.refl _ _)).2.2
  have HMl : Hid (((bestP s may).map (fun i : Nat => (i : Int))).length ≤ n) := by rw [Hid, List.length_map, ← HLn.out.1]; exact Nat.le_trans (best_len s may _) (Nat.min_le_left _ _)
  obtain ⟨M, hMM⟩ : ∃ M, M = (bestP s may).map (fun i : Nat => (i : Int)) := ⟨_, rfl⟩
  have HMM : Hid (M = (bestP s may).map (fun i : Nat => (i : Int))) := hMM
  rw [← hMM] at hA HMl
  clear hI ho b1 HS HM hMM
  --M1
  go_wp2_with fail
  refine hA.mono ?_
  rintro e w2 ⟨v2, rfl, h2⟩
  have hA := rBest_calls a n cap (fun _ => True) s b m capb (fun _ => True) may w2 (HO.out w2 h2.below).2.1 (HO.out w2 h2.below).2.2
  rw [← HMM.out] at hA
  obtain ⟨la, lc, rfl, ls⟩ := (h2.wAG RInt.firm (A' := fun _ => True) (fun _ h => h.elim)).slF (bytes := 8) RInt.firm (by have h1 := HMl.out; have h2 := HLn.out; omega)
  have HLs : Hid (SlAt RInt 1 8 (fun _ => True) w2 la M.length lc M) := ls.weak RInt.firm (fun _ _ _ => trivial)
  have HB2 : Hid (Below w1.heap.size w1 w2) := h2.below
  obtain ⟨ml, hml⟩ : ∃ ml, ml = M.length := ⟨_, rfl⟩
  rw [← hml] at HLs HMl ⊢
  have HML : Hid (M.length = ml) := hml.symm
  clear ls h2 hml
  go_wp2_with fail
  refine hA.mono ?_
  rintro e w3 ⟨v3, rfl, h3⟩
  obtain ⟨ka, kc, rfl, ks⟩ := (h3.wAG RInt.firm (A' := fun _ => True) (fun _ h => h.elim)).slF (bytes := 8) RInt.firm (by have h1 := HMl.out; have h2 := HLn.out; have h4 := HML.out; omega)
  rw [HML.out] at ks ⊢
  have hA := SameInts_calls la ml lc (fun _ => True) M ka ml kc (fun _ => True) M w3 (HLs.out.on RInt.firm h3.below) (ks.weak RInt.firm (fun _ _ _ => trivial))
  rw [show decide ((M : List Int) = M) = true from decide_eq_true rfl] at hA
  have HB3 : Hid (Below w1.heap.size w1 w3) := on2 HB2.out h3.below
  clear ks h3 HLs HB2
  --M2
  go_wp2_with fail
  refine hA.mono ?_
  rintro e w4 ⟨rfl, q, hq⟩
  have HB4 : Hid (Below w1.heap.size w1 w4) := by rw [Hid, hq]; exact below_drewN HB3.out q
  have hA := Pick_calls oa n oc (fun _ => True) s b m capb (fun _ => True) may d w4 (HO.out w4 HB4.out).1 (HO.out w4 HB4.out).2.2
  obtain ⟨x, hx⟩ : ∃ x, x = pickP s may d := ⟨_, rfl⟩
  have HX : Hid (pickP s may d = x) := hx.symm
  rw [← hx] at hA
  clear hq HB3 hx HMM HMl HML
  go_wp2_with fail
  refine hA.mono ?_
  rintro e w5 ⟨rfl, b5⟩
  have HB5 : Hid (Below w1.heap.size w1 w5) := on2 HB4.out b5
  have hA := rPick_calls a n cap (fun _ => True) s b m capb (fun _ => True) may d w5 (HO.out w5 HB5.out).2.1 (HO.out w5 HB5.out).2.2
  rw [HX.out] at hA
  clear b5 HB4 HX
  go_wp2_with fail
  refine hA.mono ?_
  rintro e w6 ⟨rfl, b6⟩
  have HB6 : Hid (Below w1.heap.size w1 w6) := on2 HB5.out b6
  have hA := SameInts_calls oa n oc (fun _ => True) s a n cap (fun _ => True) s w6 (HO.out w6 HB6.out).1 (HO.out w6 HB6.out).2.1
  rw [show decide ((s : List Int) = s) = true from decide_eq_true rfl] at hA
  have hxx : (x == x) = true := by simp
  clear b6 HB5
  --M3
  go_wp2_with fail
  refine hA.mono ?_
  rintro e w7 ⟨rfl, q, hq⟩
  have HB7 : Hid (Below w1.heap.size w1 w7) := by rw [Hid, hq]; exact below_drewN HB6.out q
  clear hq HB6
  go_wp2_with fail
  refine (works16_calls w7).mono ?_
  rintro e w8 ⟨rfl, b8⟩
  have HB8 : Hid (Below w.heap.size w w8) := on2 HB1.out (on2 HB7.out b8)
  clear b8
  go_wp2_with fail
  go_ret
  exact ⟨rfl, HB8.out⟩
end Go.Proofs.Yteihniiacfghoaa
