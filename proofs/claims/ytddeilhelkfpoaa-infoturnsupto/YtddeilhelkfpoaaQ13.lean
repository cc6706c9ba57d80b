/- info.joined at texts and at numbers: rising, each once, in room of its own. Condition: the slices lie as is said of them, and are together within what an append may ask. quant.each with the method plus adds member by member, and changes nothing that was there. No condition. quant.each with the method minus takes away member by member, and changes nothing that was there. No condition. quant.Plus, quant.Minus and quant.Fits over amounts of several things: what they return, and that they change nothing that was there. No condition. -/
import Derived.Test.YtddeilhelkfpoaaQ12
import Derived.Test.YtddeilhelkfpoaaQ09
namespace Go.Proofs.Ytddeilhelkfpoaa
open Go.RowKit Go.Sort Go.Lib
set_option linter.unusedSimpArgs false
set_option maxRecDepth 100000

set_option maxHeartbeats 4000000 in
theorem joinedS0 (a : Option Addr) (n cap : Nat) (A : Where) (L : List ByteArray) (a' : Option Addr) (n' cap' : Nat) (A' : Where) (M N : List ByteArray) (hN : N = L ++ M) (w : World) (hL : Hid (SlAt RStr 1 16 A w a n cap L)) (hM : Hid (SlAt RStr 1 16 A' w a' n' cap' M)) (hF : Hid ((L.length + M.length) * 16 ≤ 140737488351232)) : Calls Try.prog 47 #[.slice a n cap, .slice a' n' cap'] w fun e w' => ∃ b c, e = .returned (.slice b (sortB sLt sEq N).length c) ∧ SlAt RStr 1 16 (Fresh w) w' b (sortB sLt sEq N).length c (sortB sLt sEq N) ∧ Thr w' b (sortB sLt sEq N).length ∧ Below w.heap.size w w' := by
  have HN1 : Hid (Src RStr 1 A w a n L) := hL.out.src RStr.firm
  have HN2 : Hid (∀ u, Below w.heap.size w u → Src RStr 1 A' u a' n' M) := fun u hb => (hM.out.on RStr.firm hb).src RStr.firm
  have HB1 : Hid ((([] : List ByteArray).length + L.length) * 16 ≤ 140737488355328) := by have h1 := hF.out; rw [Hid]; simp only [List.length_nil]; omega
  have HB2 : Hid ((L.length + M.length) * 16 ≤ 140737488355328) := by have h1 := hF.out; rw [Hid]; omega
  have hNl : Hid (N.length * 16 ≤ 140737488351232) := by rw [Hid, hN, List.length_append]; exact hF.out
  have hcap : a = none → cap = 0 := hL.out.2.2.1
  clear hL hM hF
  rcases a with _ | ad
  · obtain rfl := hcap rfl
    clear hcap
    go_enter Try.func47, Try.ntmps47
    go_wp2_with (at_builtin; first | (refine app_out RStr.firm RStr.flat (w0 := w) rfl _ _ 35 9 rfl _ 16 infostr Try.underlying35 rfl (by decide) (by decide) _ [] rfl (OutR.nil w 9 none) none n 0 L rfl HN1.out HB1.out ?_; intro v1 u1 hr1; rw [List.nil_append] at hr1) | (go_must (refine app_out RStr.firm RStr.flat (w0 := w) rfl _ _ 35 9 rfl _ 16 infostr Try.underlying35 rfl (by decide) (by decide) _ L rfl hr1 a' n' cap' M rfl (HN2.out u1 hr1.below) HB2.out ?_); intro v2 u2 hr2))
    clear hr1 HN1 HN2 HB1 HB2
    rw [← hN] at hr2
    clear hN
    by_cases hE : N = []
    · subst hE
      obtain ⟨b, c, rfl, hbc⟩ := hr2.empty
      have hbel : Hid (Below w.heap.size w u2) := hr2.below
      have hbc2 : Hid (b = none → c = 0) := hbc
      clear hr2 hbc
      refine (SortS_none b c u2).mono ?_
      rintro e w' ⟨rfl, rfl⟩
      go_wp2_with fail
      refine (Try.slices_Compact_string_empty b c w').mono ?_
      rintro e w2 ⟨rfl, rfl⟩
      go_wp2_with fail
      go_ret
      exact ⟨b, c, rfl, SlAt.nil _ _ _ _ hbc2.out, fun B off _ j hj => absurd hj (Nat.not_lt_zero j), hbel.out⟩
    · have hrow : Row RStr 1 (fun _ => False) w u2 9 v2 N := by
        rcases hr2 with ⟨h0, _⟩ | h
        · exact absurd h0 hE
        · exact h
      clear hr2
      obtain ⟨g, c, rfl, hg, hnc, hH, hrest⟩ := sortedS hE hrow
      clear hrow
      have hlen : N.length ≤ 140737488351232 := by have := hNl.out; omega
      have hS := SortS g 0 c (N.map ByteArray.toList) u2 hH hg (by rw [List.length_map]; omega)
      rw [List.length_map] at hS
      have hml : ((N.map ByteArray.toList).mergeSort fun x y => decide (x ≤ y)).length = N.length := by rw [List.length_mergeSort, List.length_map]
      have hcl : (Lib.compact ((N.map ByteArray.toList).mergeSort fun x y => decide (x ≤ y))).length = (sortB sLt sEq N).length := by rw [sortS, List.length_map]
      clear hH
      have HR0 : Hid (∀ n os, Holds encStr (grow (putRow encStr (Sort.ahead u2 n) g 0 ((N.map ByteArray.toList).mergeSort fun x y => decide (x ≤ y)).toArray) os) g 0 ((N.map ByteArray.toList).mergeSort fun x y => decide (x ≤ y)).toArray ∧ ∀ q, Row RStr 1 (fun _ => False) w (putRow encStr (Sort.ahead (grow (putRow encStr (Sort.ahead u2 n) g 0 ((N.map ByteArray.toList).mergeSort fun x y => decide (x ≤ y)).toArray) os) q) g 0 (Lib.compact ((N.map ByteArray.toList).mergeSort fun x y => decide (x ≤ y)) ++ List.replicate (((N.map ByteArray.toList).mergeSort fun x y => decide (x ≤ y)).length - (Lib.compact ((N.map ByteArray.toList).mergeSort fun x y => decide (x ≤ y))).length) []).toArray) 9 (.slice (some ⟨g, 0, none⟩) (sortB sLt sEq N).length c) (sortB sLt sEq N)) := hrest
      clear hrest
      have HM : Hid (((N.map ByteArray.toList).mergeSort fun x y => decide (x ≤ y)).length = N.length) := hml
      have HC : Hid ((Lib.compact ((N.map ByteArray.toList).mergeSort fun x y => decide (x ≤ y))).length = (sortB sLt sEq N).length) := hcl
      clear hml hcl
      refine hS.mono ?_
      rintro e u3 ⟨rfl, k, os, hu3⟩
      have HU : Hid (u3 = grow (putRow encStr (Sort.ahead u2 k) g 0 ((N.map ByteArray.toList).mergeSort fun x y => decide (x ≤ y)).toArray) os) := hu3
      clear hS hu3
      go_wp2_with fail
      have hu3 := HU.out
      obtain ⟨H2, H3⟩ := HR0.out k os
      rw [← hu3] at H2 H3
      clear HR0 hu3 HU
      have hC := Try.slices_Compact_string g 0 c ((N.map ByteArray.toList).mergeSort fun x y => decide (x ≤ y)) u3 H2 (by rw [HM.out]; omega) (by rw [HM.out]; omega)
      rw [HM.out] at hC
      have H4 : Hid (∀ q, Row RStr 1 (fun _ => False) w (putRow encStr (Sort.ahead u3 q) g 0 (Lib.compact ((N.map ByteArray.toList).mergeSort fun x y => decide (x ≤ y)) ++ List.replicate (N.length - (Lib.compact ((N.map ByteArray.toList).mergeSort fun x y => decide (x ≤ y))).length) []).toArray) 9 (.slice (some ⟨g, 0, none⟩) (sortB sLt sEq N).length c) (sortB sLt sEq N)) := fun q => by have := H3 q; rw [HM.out] at this; exact this
      clear H2 H3
      refine hC.mono ?_
      rintro e u4 ⟨he, q, hu4⟩
      rw [HC.out] at he
      subst he
      have H5 : Row RStr 1 (fun _ => False) w u4 9 (.slice (some ⟨g, 0, none⟩) (sortB sLt sEq N).length c) (sortB sLt sEq N) := by rw [hu4]; exact H4.out q
      have H6 : Hid (SlAt RStr 1 16 (Fresh w) u4 (some ⟨g, 0, none⟩) (sortB sLt sEq N).length c (sortB sLt sEq N) ∧ Thr u4 (some ⟨g, 0, none⟩) (sortB sLt sEq N).length ∧ Below w.heap.size w u4) := by
        obtain ⟨a2, c2, e2, s2⟩ := H5.sl (bytes := 16) RStr.firm (by have h1 := sortB_len sLt sEq N; have h2 := hNl.out; exact Nat.le_trans (Nat.mul_le_mul_right 16 h1) h2)
        injection e2 with e3 e4 e5
        subst e3 e5
        exact ⟨s2.weak RStr.firm (fun b _ h => by rcases h with h | h; exact absurd h id; exact h), H5.thr, H5.below⟩
      clear H5 H4 hC hu4
      go_wp2_with fail
      go_ret
      exact ⟨_, _, rfl, H6.out.1, H6.out.2.1, H6.out.2.2⟩
  · clear hcap
    go_enter Try.func47, Try.ntmps47
    go_wp2_with (at_builtin; first | (refine app_out RStr.firm RStr.flat (w0 := w) rfl _ _ 35 9 rfl _ 16 infostr Try.underlying35 rfl (by decide) (by decide) _ [] rfl (OutR.nil w 9 (some ad)) (some ad) n cap L rfl HN1.out HB1.out ?_; intro v1 u1 hr1; rw [List.nil_append] at hr1) | (go_must (refine app_out RStr.firm RStr.flat (w0 := w) rfl _ _ 35 9 rfl _ 16 infostr Try.underlying35 rfl (by decide) (by decide) _ L rfl hr1 a' n' cap' M rfl (HN2.out u1 hr1.below) HB2.out ?_); intro v2 u2 hr2))
    clear hr1 HN1 HN2 HB1 HB2
    rw [← hN] at hr2
    clear hN
    by_cases hE : N = []
    · subst hE
      obtain ⟨b, c, rfl, hbc⟩ := hr2.empty
      have hbel : Hid (Below w.heap.size w u2) := hr2.below
      have hbc2 : Hid (b = none → c = 0) := hbc
      clear hr2 hbc
      refine (SortS_none b c u2).mono ?_
      rintro e w' ⟨rfl, rfl⟩
      go_wp2_with fail
      refine (Try.slices_Compact_string_empty b c w').mono ?_
      rintro e w2 ⟨rfl, rfl⟩
      go_wp2_with fail
      go_ret
      exact ⟨b, c, rfl, SlAt.nil _ _ _ _ hbc2.out, fun B off _ j hj => absurd hj (Nat.not_lt_zero j), hbel.out⟩
    · have hrow : Row RStr 1 (fun _ => False) w u2 9 v2 N := by
        rcases hr2 with ⟨h0, _⟩ | h
        · exact absurd h0 hE
        · exact h
      clear hr2
      obtain ⟨g, c, rfl, hg, hnc, hH, hrest⟩ := sortedS hE hrow
      clear hrow
      have hlen : N.length ≤ 140737488351232 := by have := hNl.out; omega
      have hS := SortS g 0 c (N.map ByteArray.toList) u2 hH hg (by rw [List.length_map]; omega)
      rw [List.length_map] at hS
      have hml : ((N.map ByteArray.toList).mergeSort fun x y => decide (x ≤ y)).length = N.length := by rw [List.length_mergeSort, List.length_map]
      have hcl : (Lib.compact ((N.map ByteArray.toList).mergeSort fun x y => decide (x ≤ y))).length = (sortB sLt sEq N).length := by rw [sortS, List.length_map]
      clear hH
      have HR0 : Hid (∀ n os, Holds encStr (grow (putRow encStr (Sort.ahead u2 n) g 0 ((N.map ByteArray.toList).mergeSort fun x y => decide (x ≤ y)).toArray) os) g 0 ((N.map ByteArray.toList).mergeSort fun x y => decide (x ≤ y)).toArray ∧ ∀ q, Row RStr 1 (fun _ => False) w (putRow encStr (Sort.ahead (grow (putRow encStr (Sort.ahead u2 n) g 0 ((N.map ByteArray.toList).mergeSort fun x y => decide (x ≤ y)).toArray) os) q) g 0 (Lib.compact ((N.map ByteArray.toList).mergeSort fun x y => decide (x ≤ y)) ++ List.replicate (((N.map ByteArray.toList).mergeSort fun x y => decide (x ≤ y)).length - (Lib.compact ((N.map ByteArray.toList).mergeSort fun x y => decide (x ≤ y))).length) []).toArray) 9 (.slice (some ⟨g, 0, none⟩) (sortB sLt sEq N).length c) (sortB sLt sEq N)) := hrest
      clear hrest
      have HM : Hid (((N.map ByteArray.toList).mergeSort fun x y => decide (x ≤ y)).length = N.length) := hml
      have HC : Hid ((Lib.compact ((N.map ByteArray.toList).mergeSort fun x y => decide (x ≤ y))).length = (sortB sLt sEq N).length) := hcl
      clear hml hcl
      refine hS.mono ?_
      rintro e u3 ⟨rfl, k, os, hu3⟩
      have HU : Hid (u3 = grow (putRow encStr (Sort.ahead u2 k) g 0 ((N.map ByteArray.toList).mergeSort fun x y => decide (x ≤ y)).toArray) os) := hu3
      clear hS hu3
      go_wp2_with fail
      have hu3 := HU.out
      obtain ⟨H2, H3⟩ := HR0.out k os
      rw [← hu3] at H2 H3
      clear HR0 hu3 HU
      have hC := Try.slices_Compact_string g 0 c ((N.map ByteArray.toList).mergeSort fun x y => decide (x ≤ y)) u3 H2 (by rw [HM.out]; omega) (by rw [HM.out]; omega)
      rw [HM.out] at hC
      have H4 : Hid (∀ q, Row RStr 1 (fun _ => False) w (putRow encStr (Sort.ahead u3 q) g 0 (Lib.compact ((N.map ByteArray.toList).mergeSort fun x y => decide (x ≤ y)) ++ List.replicate (N.length - (Lib.compact ((N.map ByteArray.toList).mergeSort fun x y => decide (x ≤ y))).length) []).toArray) 9 (.slice (some ⟨g, 0, none⟩) (sortB sLt sEq N).length c) (sortB sLt sEq N)) := fun q => by have := H3 q; rw [HM.out] at this; exact this
      clear H2 H3
      refine hC.mono ?_
      rintro e u4 ⟨he, q, hu4⟩
      rw [HC.out] at he
      subst he
      have H5 : Row RStr 1 (fun _ => False) w u4 9 (.slice (some ⟨g, 0, none⟩) (sortB sLt sEq N).length c) (sortB sLt sEq N) := by rw [hu4]; exact H4.out q
      have H6 : Hid (SlAt RStr 1 16 (Fresh w) u4 (some ⟨g, 0, none⟩) (sortB sLt sEq N).length c (sortB sLt sEq N) ∧ Thr u4 (some ⟨g, 0, none⟩) (sortB sLt sEq N).length ∧ Below w.heap.size w u4) := by
        obtain ⟨a2, c2, e2, s2⟩ := H5.sl (bytes := 16) RStr.firm (by have h1 := sortB_len sLt sEq N; have h2 := hNl.out; exact Nat.le_trans (Nat.mul_le_mul_right 16 h1) h2)
        injection e2 with e3 e4 e5
        subst e3 e5
        exact ⟨s2.weak RStr.firm (fun b _ h => by rcases h with h | h; exact absurd h id; exact h), H5.thr, H5.below⟩
      clear H5 H4 hC hu4
      go_wp2_with fail
      go_ret
      exact ⟨_, _, rfl, H6.out.1, H6.out.2.1, H6.out.2.2⟩
theorem joinedS (a : Option Addr) (n cap : Nat) (A : Where) (L : List ByteArray) (a' : Option Addr) (n' cap' : Nat) (A' : Where) (M : List ByteArray) (w : World) (hL : Hid (SlAt RStr 1 16 A w a n cap L)) (hM : Hid (SlAt RStr 1 16 A' w a' n' cap' M)) (hF : Hid ((L.length + M.length) * 16 ≤ 140737488351232)) : Calls Try.prog 47 #[.slice a n cap, .slice a' n' cap'] w fun e w' => ∃ b c, e = .returned (.slice b (sortB sLt sEq (L ++ M)).length c) ∧ SlAt RStr 1 16 (Fresh w) w' b (sortB sLt sEq (L ++ M)).length c (sortB sLt sEq (L ++ M)) ∧ Thr w' b (sortB sLt sEq (L ++ M)).length ∧ Below w.heap.size w w' :=
  joinedS0 a n cap A L a' n' cap' A' M _ rfl w hL hM hF
set_option maxHeartbeats 4000000 in
theorem joinedI0 (a : Option Addr) (n cap : Nat) (A : Where) (L : List Int) (a' : Option Addr) (n' cap' : Nat) (A' : Where) (M N : List Int) (hN : N = L ++ M) (w : World) (hL : Hid (SlAt RInt 1 8 A w a n cap L)) (hM : Hid (SlAt RInt 1 8 A' w a' n' cap' M)) (hF : Hid ((L.length + M.length) * 8 ≤ 140737488351232)) : Calls Try.prog 48 #[.slice a n cap, .slice a' n' cap'] w fun e w' => ∃ b c, e = .returned (.slice b (sortB iLt iEq N).length c) ∧ SlAt RInt 1 8 (Fresh w) w' b (sortB iLt iEq N).length c (sortB iLt iEq N) ∧ Thr w' b (sortB iLt iEq N).length ∧ Below w.heap.size w w' := by
  have HN1 : Hid (Src RInt 1 A w a n L) := hL.out.src RInt.firm
  have HN2 : Hid (∀ u, Below w.heap.size w u → Src RInt 1 A' u a' n' M) := fun u hb => (hM.out.on RInt.firm hb).src RInt.firm
  have HB1 : Hid ((([] : List Int).length + L.length) * 8 ≤ 140737488355328) := by have h1 := hF.out; rw [Hid]; simp only [List.length_nil]; omega
  have HB2 : Hid ((L.length + M.length) * 8 ≤ 140737488355328) := by have h1 := hF.out; rw [Hid]; omega
  have hNl : Hid (N.length * 8 ≤ 140737488351232) := by rw [Hid, hN, List.length_append]; exact hF.out
  have hcap : a = none → cap = 0 := hL.out.2.2.1
  clear hL hM hF
  rcases a with _ | ad
  · obtain rfl := hcap rfl
    clear hcap
    go_enter Try.func48, Try.ntmps48
    go_wp2_with (at_builtin; first | (refine app_out RInt.firm RInt.flat (w0 := w) rfl _ _ 32 3 rfl _ 8 infoint Try.underlying32 rfl (by decide) (by decide) _ [] rfl (OutR.nil w 3 none) none n 0 L rfl HN1.out HB1.out ?_; intro v1 u1 hr1; rw [List.nil_append] at hr1) | (go_must (refine app_out RInt.firm RInt.flat (w0 := w) rfl _ _ 32 3 rfl _ 8 infoint Try.underlying32 rfl (by decide) (by decide) _ L rfl hr1 a' n' cap' M rfl (HN2.out u1 hr1.below) HB2.out ?_); intro v2 u2 hr2))
    clear hr1 HN1 HN2 HB1 HB2
    rw [← hN] at hr2
    clear hN
    by_cases hE : N = []
    · subst hE
      obtain ⟨b, c, rfl, hbc⟩ := hr2.empty
      have hbel : Hid (Below w.heap.size w u2) := hr2.below
      have hbc2 : Hid (b = none → c = 0) := hbc
      clear hr2 hbc
      refine (SortI_none b c u2).mono ?_
      rintro e w' ⟨rfl, rfl⟩
      go_wp2_with fail
      refine (Try.slices_Compact_int_empty b c w').mono ?_
      rintro e w2 ⟨rfl, rfl⟩
      go_wp2_with fail
      go_ret
      exact ⟨b, c, rfl, SlAt.nil _ _ _ _ hbc2.out, fun B off _ j hj => absurd hj (Nat.not_lt_zero j), hbel.out⟩
    · have hrow : Row RInt 1 (fun _ => False) w u2 3 v2 N := by
        rcases hr2 with ⟨h0, _⟩ | h
        · exact absurd h0 hE
        · exact h
      clear hr2
      obtain ⟨g, c, rfl, hg, hnc, hH, hrest⟩ := sortedI hE hrow
      clear hrow
      have hlen : N.length ≤ 140737488351232 := by have := hNl.out; omega
      have hS := SortI g 0 c N u2 hH hg (by omega)
      have hml : (N.mergeSort fun x y => decide (x ≤ y)).length = N.length := by rw [List.length_mergeSort]
      have hcl : (Lib.compact (N.mergeSort fun x y => decide (x ≤ y))).length = (sortB iLt iEq N).length := by rw [sortI]
      clear hH
      have HR0 : Hid (∀ n os, Holds (Value.int .i64) (grow (putRow (Value.int .i64) (Sort.ahead u2 n) g 0 (N.mergeSort fun x y => decide (x ≤ y)).toArray) os) g 0 (N.mergeSort fun x y => decide (x ≤ y)).toArray ∧ ∀ q, Row RInt 1 (fun _ => False) w (putRow (Value.int .i64) (Sort.ahead (grow (putRow (Value.int .i64) (Sort.ahead u2 n) g 0 (N.mergeSort fun x y => decide (x ≤ y)).toArray) os) q) g 0 (Lib.compact (N.mergeSort fun x y => decide (x ≤ y)) ++ List.replicate ((N.mergeSort fun x y => decide (x ≤ y)).length - (Lib.compact (N.mergeSort fun x y => decide (x ≤ y))).length) 0).toArray) 3 (.slice (some ⟨g, 0, none⟩) (sortB iLt iEq N).length c) (sortB iLt iEq N)) := hrest
      clear hrest
      have HM : Hid ((N.mergeSort fun x y => decide (x ≤ y)).length = N.length) := hml
      have HC : Hid ((Lib.compact (N.mergeSort fun x y => decide (x ≤ y))).length = (sortB iLt iEq N).length) := hcl
      clear hml hcl
      refine hS.mono ?_
      rintro e u3 ⟨rfl, k, os, hu3⟩
      have HU : Hid (u3 = grow (putRow (Value.int .i64) (Sort.ahead u2 k) g 0 (N.mergeSort fun x y => decide (x ≤ y)).toArray) os) := hu3
      clear hS hu3
      go_wp2_with fail
      have hu3 := HU.out
      obtain ⟨H2, H3⟩ := HR0.out k os
      rw [← hu3] at H2 H3
      clear HR0 hu3 HU
      have hC := Try.slices_Compact_int g 0 c (N.mergeSort fun x y => decide (x ≤ y)) u3 H2 (by rw [HM.out]; omega) (by rw [HM.out]; omega)
      rw [HM.out] at hC
      have H4 : Hid (∀ q, Row RInt 1 (fun _ => False) w (putRow (Value.int .i64) (Sort.ahead u3 q) g 0 (Lib.compact (N.mergeSort fun x y => decide (x ≤ y)) ++ List.replicate (N.length - (Lib.compact (N.mergeSort fun x y => decide (x ≤ y))).length) 0).toArray) 3 (.slice (some ⟨g, 0, none⟩) (sortB iLt iEq N).length c) (sortB iLt iEq N)) := fun q => by have := H3 q; rw [HM.out] at this; exact this
      clear H2 H3
      refine hC.mono ?_
      rintro e u4 ⟨he, q, hu4⟩
      rw [HC.out] at he
      subst he
      have H5 : Row RInt 1 (fun _ => False) w u4 3 (.slice (some ⟨g, 0, none⟩) (sortB iLt iEq N).length c) (sortB iLt iEq N) := by rw [hu4]; exact H4.out q
      have H6 : Hid (SlAt RInt 1 8 (Fresh w) u4 (some ⟨g, 0, none⟩) (sortB iLt iEq N).length c (sortB iLt iEq N) ∧ Thr u4 (some ⟨g, 0, none⟩) (sortB iLt iEq N).length ∧ Below w.heap.size w u4) := by
        obtain ⟨a2, c2, e2, s2⟩ := H5.sl (bytes := 8) RInt.firm (by have h1 := sortB_len iLt iEq N; have h2 := hNl.out; exact Nat.le_trans (Nat.mul_le_mul_right 8 h1) h2)
        injection e2 with e3 e4 e5
        subst e3 e5
        exact ⟨s2.weak RInt.firm (fun b _ h => by rcases h with h | h; exact absurd h id; exact h), H5.thr, H5.below⟩
      clear H5 H4 hC hu4
      go_wp2_with fail
      go_ret
      exact ⟨_, _, rfl, H6.out.1, H6.out.2.1, H6.out.2.2⟩
  · clear hcap
    go_enter Try.func48, Try.ntmps48
    go_wp2_with (at_builtin; first | (refine app_out RInt.firm RInt.flat (w0 := w) rfl _ _ 32 3 rfl _ 8 infoint Try.underlying32 rfl (by decide) (by decide) _ [] rfl (OutR.nil w 3 (some ad)) (some ad) n cap L rfl HN1.out HB1.out ?_; intro v1 u1 hr1; rw [List.nil_append] at hr1) | (go_must (refine app_out RInt.firm RInt.flat (w0 := w) rfl _ _ 32 3 rfl _ 8 infoint Try.underlying32 rfl (by decide) (by decide) _ L rfl hr1 a' n' cap' M rfl (HN2.out u1 hr1.below) HB2.out ?_); intro v2 u2 hr2))
    clear hr1 HN1 HN2 HB1 HB2
    rw [← hN] at hr2
    clear hN
    by_cases hE : N = []
    · subst hE
      obtain ⟨b, c, rfl, hbc⟩ := hr2.empty
      have hbel : Hid (Below w.heap.size w u2) := hr2.below
      have hbc2 : Hid (b = none → c = 0) := hbc
      clear hr2 hbc
      refine (SortI_none b c u2).mono ?_
      rintro e w' ⟨rfl, rfl⟩
      go_wp2_with fail
      refine (Try.slices_Compact_int_empty b c w').mono ?_
      rintro e w2 ⟨rfl, rfl⟩
      go_wp2_with fail
      go_ret
      exact ⟨b, c, rfl, SlAt.nil _ _ _ _ hbc2.out, fun B off _ j hj => absurd hj (Nat.not_lt_zero j), hbel.out⟩
    · have hrow : Row RInt 1 (fun _ => False) w u2 3 v2 N := by
        rcases hr2 with ⟨h0, _⟩ | h
        · exact absurd h0 hE
        · exact h
      clear hr2
      obtain ⟨g, c, rfl, hg, hnc, hH, hrest⟩ := sortedI hE hrow
      clear hrow
      have hlen : N.length ≤ 140737488351232 := by have := hNl.out; omega
      have hS := SortI g 0 c N u2 hH hg (by omega)
      have hml : (N.mergeSort fun x y => decide (x ≤ y)).length = N.length := by rw [List.length_mergeSort]
      have hcl : (Lib.compact (N.mergeSort fun x y => decide (x ≤ y))).length = (sortB iLt iEq N).length := by rw [sortI]
      clear hH
      have HR0 : Hid (∀ n os, Holds (Value.int .i64) (grow (putRow (Value.int .i64) (Sort.ahead u2 n) g 0 (N.mergeSort fun x y => decide (x ≤ y)).toArray) os) g 0 (N.mergeSort fun x y => decide (x ≤ y)).toArray ∧ ∀ q, Row RInt 1 (fun _ => False) w (putRow (Value.int .i64) (Sort.ahead (grow (putRow (Value.int .i64) (Sort.ahead u2 n) g 0 (N.mergeSort fun x y => decide (x ≤ y)).toArray) os) q) g 0 (Lib.compact (N.mergeSort fun x y => decide (x ≤ y)) ++ List.replicate ((N.mergeSort fun x y => decide (x ≤ y)).length - (Lib.compact (N.mergeSort fun x y => decide (x ≤ y))).length) 0).toArray) 3 (.slice (some ⟨g, 0, none⟩) (sortB iLt iEq N).length c) (sortB iLt iEq N)) := hrest
      clear hrest
      have HM : Hid ((N.mergeSort fun x y => decide (x ≤ y)).length = N.length) := hml
      have HC : Hid ((Lib.compact (N.mergeSort fun x y => decide (x ≤ y))).length = (sortB iLt iEq N).length) := hcl
      clear hml hcl
      refine hS.mono ?_
      rintro e u3 ⟨rfl, k, os, hu3⟩
      have HU : Hid (u3 = grow (putRow (Value.int .i64) (Sort.ahead u2 k) g 0 (N.mergeSort fun x y => decide (x ≤ y)).toArray) os) := hu3
      clear hS hu3
      go_wp2_with fail
      have hu3 := HU.out
      obtain ⟨H2, H3⟩ := HR0.out k os
      rw [← hu3] at H2 H3
      clear HR0 hu3 HU
      have hC := Try.slices_Compact_int g 0 c (N.mergeSort fun x y => decide (x ≤ y)) u3 H2 (by rw [HM.out]; omega) (by rw [HM.out]; omega)
      rw [HM.out] at hC
      have H4 : Hid (∀ q, Row RInt 1 (fun _ => False) w (putRow (Value.int .i64) (Sort.ahead u3 q) g 0 (Lib.compact (N.mergeSort fun x y => decide (x ≤ y)) ++ List.replicate (N.length - (Lib.compact (N.mergeSort fun x y => decide (x ≤ y))).length) 0).toArray) 3 (.slice (some ⟨g, 0, none⟩) (sortB iLt iEq N).length c) (sortB iLt iEq N)) := fun q => by have := H3 q; rw [HM.out] at this; exact this
      clear H2 H3
      refine hC.mono ?_
      rintro e u4 ⟨he, q, hu4⟩
      rw [HC.out] at he
      subst he
      have H5 : Row RInt 1 (fun _ => False) w u4 3 (.slice (some ⟨g, 0, none⟩) (sortB iLt iEq N).length c) (sortB iLt iEq N) := by rw [hu4]; exact H4.out q
      have H6 : Hid (SlAt RInt 1 8 (Fresh w) u4 (some ⟨g, 0, none⟩) (sortB iLt iEq N).length c (sortB iLt iEq N) ∧ Thr u4 (some ⟨g, 0, none⟩) (sortB iLt iEq N).length ∧ Below w.heap.size w u4) := by
        obtain ⟨a2, c2, e2, s2⟩ := H5.sl (bytes := 8) RInt.firm (by have h1 := sortB_len iLt iEq N; have h2 := hNl.out; exact Nat.le_trans (Nat.mul_le_mul_right 8 h1) h2)
        injection e2 with e3 e4 e5
        subst e3 e5
        exact ⟨s2.weak RInt.firm (fun b _ h => by rcases h with h | h; exact absurd h id; exact h), H5.thr, H5.below⟩
      clear H5 H4 hC hu4
      go_wp2_with fail
      go_ret
      exact ⟨_, _, rfl, H6.out.1, H6.out.2.1, H6.out.2.2⟩
theorem joinedI (a : Option Addr) (n cap : Nat) (A : Where) (L : List Int) (a' : Option Addr) (n' cap' : Nat) (A' : Where) (M : List Int) (w : World) (hL : Hid (SlAt RInt 1 8 A w a n cap L)) (hM : Hid (SlAt RInt 1 8 A' w a' n' cap' M)) (hF : Hid ((L.length + M.length) * 8 ≤ 140737488351232)) : Calls Try.prog 48 #[.slice a n cap, .slice a' n' cap'] w fun e w' => ∃ b c, e = .returned (.slice b (sortB iLt iEq (L ++ M)).length c) ∧ SlAt RInt 1 8 (Fresh w) w' b (sortB iLt iEq (L ++ M)).length c (sortB iLt iEq (L ++ M)) ∧ Thr w' b (sortB iLt iEq (L ++ M)).length ∧ Below w.heap.size w w' :=
  joinedI0 a n cap A L a' n' cap' A' M _ rfl w hL hM hF
theorem joinedS1 (a : Option Addr) (n cap : Nat) (A : Where) (L : List ByteArray) (w : World) (hL : Hid (SlAt RStr 1 16 A w a n cap L)) : Calls Try.prog 47 #[.slice a n cap, .slice none 0 0] w fun e w' => ∃ b c, e = .returned (.slice b (sortB sLt sEq L).length c) ∧ SlAt RStr 1 16 (Fresh w) w' b (sortB sLt sEq L).length c (sortB sLt sEq L) ∧ Thr w' b (sortB sLt sEq L).length ∧ Below w.heap.size w w' :=
  joinedS0 a n cap A L none 0 0 A [] L (by simp) w hL (SlAt.nil _ _ _ _ (fun _ => rfl)) (by have h1 := hL.out.1; have h2 := hL.out.2.2.2.1; rw [Hid, h1]; simpa using h2)
theorem joinedI1 (a : Option Addr) (n cap : Nat) (A : Where) (L : List Int) (w : World) (hL : Hid (SlAt RInt 1 8 A w a n cap L)) : Calls Try.prog 48 #[.slice a n cap, .slice none 0 0] w fun e w' => ∃ b c, e = .returned (.slice b (sortB iLt iEq L).length c) ∧ SlAt RInt 1 8 (Fresh w) w' b (sortB iLt iEq L).length c (sortB iLt iEq L) ∧ Thr w' b (sortB iLt iEq L).length ∧ Below w.heap.size w w' :=
  joinedI0 a n cap A L none 0 0 A [] L (by simp) w hL (SlAt.nil _ _ _ _ (fun _ => rfl)) (by have h1 := hL.out.1; have h2 := hL.out.2.2.2.1; rw [Hid, h1]; simpa using h2)
end Go.Proofs.Ytddeilhelkfpoaa
namespace Go.Proofs.Ytddeilhelkfpoaa
open Go.RowKit
set_option maxRecDepth 100000

set_option maxHeartbeats 4000000 in
theorem each_plus (a b c x y z : Int) (w : World) : Calls Try.prog 54 #[.func (.func 55) #[] #[], .agg #[.int .i64 a, .int .i64 b, .int .i64 c], .agg #[.int .i64 x, .int .i64 y, .int .i64 z]] w fun e w' => e = .returned (.agg #[.int .i64 (addI a x), .int .i64 (addI b y), .int .i64 (addI c z)]) ∧ Below w.heap.size w w' := by
  go_enter Try.func54, Try.ntmps54
  go_upto_region 1 with fail
  go_cut [7, 8] (fun p q wx => ∃ B C : Nat, p = .pointer (some ⟨B, 0, none⟩) ∧ q = .pointer (some ⟨C, 0, none⟩) ∧ w.heap.size + 1 + 1 < B ∧ w.heap.size + 1 + 1 < C ∧ B < wx.heap.size ∧ C < wx.heap.size ∧ Holds3 wx B a b c ∧ Holds3 wx C x y z ∧ Holds3 wx (w.heap.size + 1 + 1) 0 0 0 ∧ wx.frozen? ⟨w.heap.size + 1 + 1, 0, none⟩ = false ∧ wx.frozen? ⟨w.heap.size + 1 + 1, 1, none⟩ = false ∧ wx.frozen? ⟨w.heap.size + 1 + 1, 2, none⟩ = false ∧ Below w.heap.size w wx)
  case first =>
    go_region_held3 (fun w' => w'.cell? ⟨w.heap.size, 0, none⟩ = some (.int .i64 a) ∧ w'.cell? ⟨w.heap.size, 1, none⟩ = some (.int .i64 b) ∧ w'.cell? ⟨w.heap.size, 2, none⟩ = some (.int .i64 c) ∧ w'.cell? ⟨w.heap.size + 1, 0, none⟩ = some (.int .i64 x) ∧ w'.cell? ⟨w.heap.size + 1, 1, none⟩ = some (.int .i64 y) ∧ w'.cell? ⟨w.heap.size + 1, 2, none⟩ = some (.int .i64 z)) ((refine ⟨?_, ?_, ?_, ?_, ?_, ?_⟩) <;> (simp [go_sem]; done))
      (first | (go_at_call 66; refine (split_calls _ _ _ _).mono ?_; rintro e w' ⟨rfl, rfl⟩))
    all_goals
      go_wp2_with fail
      go_meet
      refine ⟨_, _, rfl, rfl, ?_, ?_, ?_, ?_, ⟨?_, ?_, ?_⟩, ⟨?_, ?_, ?_⟩, ⟨?_, ?_, ?_⟩, ?_, ?_, ?_, ?_⟩
      all_goals first | omega | (simp [go_sem]; done) | (simp [go_sem]; omega) | go_grown
  case rest =>
    obtain ⟨B, C, rfl, rfl, hB, hC, hBl, hCl, ⟨hB0, hB1, hB2⟩, ⟨hC0, hC1, hC2⟩, ⟨hR0, hR1, hR2⟩, hf0, hf1, hf2, hbel⟩ := hcut
    have hRl : w.heap.size + 1 + 1 < wc.heap.size := by omega
    go_wp2_with fail
    refine wp_loop_rounds 4 ?_
    rw [rounds_succ]
    go_wp2_with fail
    go_region_held3 (fun w' => w'.cell? ⟨B, 0, none⟩ = some (.int .i64 a) ∧ w'.cell? ⟨B, 1, none⟩ = some (.int .i64 b) ∧ w'.cell? ⟨B, 2, none⟩ = some (.int .i64 c) ∧ w'.cell? ⟨C, 0, none⟩ = some (.int .i64 x) ∧ w'.cell? ⟨C, 1, none⟩ = some (.int .i64 y) ∧ w'.cell? ⟨C, 2, none⟩ = some (.int .i64 z)) ((refine ⟨?_, ?_, ?_, ?_, ?_, ?_⟩) <;> (simp [*, go_sem]; done))
      (first | (go_at_call 55; refine (plus_calls _ _ _).mono ?_; rintro e w' ⟨rfl, rfl⟩))
    rename_i hHeld1
    clear hHeld1
    go_wp2_with fail
    rw [rounds_succ]
    go_wp2_with fail
    go_region_held3 (fun w' => w'.cell? ⟨B, 0, none⟩ = some (.int .i64 a) ∧ w'.cell? ⟨B, 1, none⟩ = some (.int .i64 b) ∧ w'.cell? ⟨B, 2, none⟩ = some (.int .i64 c) ∧ w'.cell? ⟨C, 0, none⟩ = some (.int .i64 x) ∧ w'.cell? ⟨C, 1, none⟩ = some (.int .i64 y) ∧ w'.cell? ⟨C, 2, none⟩ = some (.int .i64 z)) ((refine ⟨?_, ?_, ?_, ?_, ?_, ?_⟩) <;> (simp [*, go_sem]; done))
      (first | (go_at_call 55; refine (plus_calls _ _ _).mono ?_; rintro e w' ⟨rfl, rfl⟩))
    rename_i hHeld1
    clear hHeld1
    go_wp2_with fail
    rw [rounds_succ]
    go_wp2_with fail
    go_region_held3 (fun w' => w'.cell? ⟨B, 0, none⟩ = some (.int .i64 a) ∧ w'.cell? ⟨B, 1, none⟩ = some (.int .i64 b) ∧ w'.cell? ⟨B, 2, none⟩ = some (.int .i64 c) ∧ w'.cell? ⟨C, 0, none⟩ = some (.int .i64 x) ∧ w'.cell? ⟨C, 1, none⟩ = some (.int .i64 y) ∧ w'.cell? ⟨C, 2, none⟩ = some (.int .i64 z)) ((refine ⟨?_, ?_, ?_, ?_, ?_, ?_⟩) <;> (simp [*, go_sem]; done))
      (first | (go_at_call 55; refine (plus_calls _ _ _).mono ?_; rintro e w' ⟨rfl, rfl⟩))
    rename_i hHeld1
    clear hHeld1
    go_wp2_with fail
    rw [rounds_succ]
    go_wp2_with fail
    refine (join_below _ _ _ _).mono ?_
    rintro e w1 ⟨rfl, hb⟩
    have hb' : Below wc.heap.size wc w1 := (((((Below.refl wc.heap.size wc).alloc (Nat.le_refl _) _).drew).drew).drew).trans (hb.mono (by simp))
    have r0 := (hb'.cell (p := ⟨w.heap.size + 1 + 1, 0, none⟩) hRl).trans hR0
    have r1 := (hb'.cell (p := ⟨w.heap.size + 1 + 1, 1, none⟩) hRl).trans hR1
    have r2 := (hb'.cell (p := ⟨w.heap.size + 1 + 1, 2, none⟩) hRl).trans hR2
    have f0 := (hb'.frozen (p := ⟨w.heap.size + 1 + 1, 0, none⟩) hRl).trans hf0
    have f1 := (hb'.frozen (p := ⟨w.heap.size + 1 + 1, 1, none⟩) hRl).trans hf1
    have f2 := (hb'.frozen (p := ⟨w.heap.size + 1 + 1, 2, none⟩) hRl).trans hf2
    have hz : Below w.heap.size w w1 := hbel.trans (hb'.mono hbel.size)
    clear hb hb' hR0 hR1 hR2 hf0 hf1 hf2
    go_wp2_with fail
    exact bodyPost_ret (v := .agg #[.int .i64 (addI a x), .int .i64 (addI b y), .int .i64 (addI c z)]) (by simp [results, Try.results54, go_sem, r0, r1, r2]) rfl ⟨rfl, ((hz.setCell (by simp; omega) _).setCell (by simp; omega) _).setCell (by simp; omega) _⟩
end Go.Proofs.Ytddeilhelkfpoaa
namespace Go.Proofs.Ytddeilhelkfpoaa
open Go.RowKit
set_option maxRecDepth 100000

set_option maxHeartbeats 4000000 in
theorem each_minus (a b c x y z : Int) (w : World) : Calls Try.prog 54 #[.func (.func 57) #[] #[], .agg #[.int .i64 a, .int .i64 b, .int .i64 c], .agg #[.int .i64 x, .int .i64 y, .int .i64 z]] w fun e w' => e = .returned (.agg #[.int .i64 (subI a x), .int .i64 (subI b y), .int .i64 (subI c z)]) ∧ Below w.heap.size w w' := by
  go_enter Try.func54, Try.ntmps54
  go_upto_region 1 with fail
  go_cut [7, 8] (fun p q wx => ∃ B C : Nat, p = .pointer (some ⟨B, 0, none⟩) ∧ q = .pointer (some ⟨C, 0, none⟩) ∧ w.heap.size + 1 + 1 < B ∧ w.heap.size + 1 + 1 < C ∧ B < wx.heap.size ∧ C < wx.heap.size ∧ Holds3 wx B a b c ∧ Holds3 wx C x y z ∧ Holds3 wx (w.heap.size + 1 + 1) 0 0 0 ∧ wx.frozen? ⟨w.heap.size + 1 + 1, 0, none⟩ = false ∧ wx.frozen? ⟨w.heap.size + 1 + 1, 1, none⟩ = false ∧ wx.frozen? ⟨w.heap.size + 1 + 1, 2, none⟩ = false ∧ Below w.heap.size w wx)
  case first =>
    go_region_held3 (fun w' => w'.cell? ⟨w.heap.size, 0, none⟩ = some (.int .i64 a) ∧ w'.cell? ⟨w.heap.size, 1, none⟩ = some (.int .i64 b) ∧ w'.cell? ⟨w.heap.size, 2, none⟩ = some (.int .i64 c) ∧ w'.cell? ⟨w.heap.size + 1, 0, none⟩ = some (.int .i64 x) ∧ w'.cell? ⟨w.heap.size + 1, 1, none⟩ = some (.int .i64 y) ∧ w'.cell? ⟨w.heap.size + 1, 2, none⟩ = some (.int .i64 z)) ((refine ⟨?_, ?_, ?_, ?_, ?_, ?_⟩) <;> (simp [go_sem]; done))
      (first | (go_at_call 66; refine (split_calls _ _ _ _).mono ?_; rintro e w' ⟨rfl, rfl⟩))
    all_goals
      go_wp2_with fail
      go_meet
      refine ⟨_, _, rfl, rfl, ?_, ?_, ?_, ?_, ⟨?_, ?_, ?_⟩, ⟨?_, ?_, ?_⟩, ⟨?_, ?_, ?_⟩, ?_, ?_, ?_, ?_⟩
      all_goals first | omega | (simp [go_sem]; done) | (simp [go_sem]; omega) | go_grown
  case rest =>
    obtain ⟨B, C, rfl, rfl, hB, hC, hBl, hCl, ⟨hB0, hB1, hB2⟩, ⟨hC0, hC1, hC2⟩, ⟨hR0, hR1, hR2⟩, hf0, hf1, hf2, hbel⟩ := hcut
    have hRl : w.heap.size + 1 + 1 < wc.heap.size := by omega
    go_wp2_with fail
    refine wp_loop_rounds 4 ?_
    rw [rounds_succ]
    go_wp2_with fail
    go_region_held3 (fun w' => w'.cell? ⟨B, 0, none⟩ = some (.int .i64 a) ∧ w'.cell? ⟨B, 1, none⟩ = some (.int .i64 b) ∧ w'.cell? ⟨B, 2, none⟩ = some (.int .i64 c) ∧ w'.cell? ⟨C, 0, none⟩ = some (.int .i64 x) ∧ w'.cell? ⟨C, 1, none⟩ = some (.int .i64 y) ∧ w'.cell? ⟨C, 2, none⟩ = some (.int .i64 z)) ((refine ⟨?_, ?_, ?_, ?_, ?_, ?_⟩) <;> (simp [*, go_sem]; done))
      (first | (go_at_call 57; refine (minus_calls _ _ _).mono ?_; rintro e w' ⟨rfl, rfl⟩))
    rename_i hHeld1
    clear hHeld1
    go_wp2_with fail
    rw [rounds_succ]
    go_wp2_with fail
    go_region_held3 (fun w' => w'.cell? ⟨B, 0, none⟩ = some (.int .i64 a) ∧ w'.cell? ⟨B, 1, none⟩ = some (.int .i64 b) ∧ w'.cell? ⟨B, 2, none⟩ = some (.int .i64 c) ∧ w'.cell? ⟨C, 0, none⟩ = some (.int .i64 x) ∧ w'.cell? ⟨C, 1, none⟩ = some (.int .i64 y) ∧ w'.cell? ⟨C, 2, none⟩ = some (.int .i64 z)) ((refine ⟨?_, ?_, ?_, ?_, ?_, ?_⟩) <;> (simp [*, go_sem]; done))
      (first | (go_at_call 57; refine (minus_calls _ _ _).mono ?_; rintro e w' ⟨rfl, rfl⟩))
    rename_i hHeld1
    clear hHeld1
    go_wp2_with fail
    rw [rounds_succ]
    go_wp2_with fail
    go_region_held3 (fun w' => w'.cell? ⟨B, 0, none⟩ = some (.int .i64 a) ∧ w'.cell? ⟨B, 1, none⟩ = some (.int .i64 b) ∧ w'.cell? ⟨B, 2, none⟩ = some (.int .i64 c) ∧ w'.cell? ⟨C, 0, none⟩ = some (.int .i64 x) ∧ w'.cell? ⟨C, 1, none⟩ = some (.int .i64 y) ∧ w'.cell? ⟨C, 2, none⟩ = some (.int .i64 z)) ((refine ⟨?_, ?_, ?_, ?_, ?_, ?_⟩) <;> (simp [*, go_sem]; done))
      (first | (go_at_call 57; refine (minus_calls _ _ _).mono ?_; rintro e w' ⟨rfl, rfl⟩))
    rename_i hHeld1
    clear hHeld1
    go_wp2_with fail
    rw [rounds_succ]
    go_wp2_with fail
    refine (join_below _ _ _ _).mono ?_
    rintro e w1 ⟨rfl, hb⟩
    have hb' : Below wc.heap.size wc w1 := (((((Below.refl wc.heap.size wc).alloc (Nat.le_refl _) _).drew).drew).drew).trans (hb.mono (by simp))
    have r0 := (hb'.cell (p := ⟨w.heap.size + 1 + 1, 0, none⟩) hRl).trans hR0
    have r1 := (hb'.cell (p := ⟨w.heap.size + 1 + 1, 1, none⟩) hRl).trans hR1
    have r2 := (hb'.cell (p := ⟨w.heap.size + 1 + 1, 2, none⟩) hRl).trans hR2
    have f0 := (hb'.frozen (p := ⟨w.heap.size + 1 + 1, 0, none⟩) hRl).trans hf0
    have f1 := (hb'.frozen (p := ⟨w.heap.size + 1 + 1, 1, none⟩) hRl).trans hf1
    have f2 := (hb'.frozen (p := ⟨w.heap.size + 1 + 1, 2, none⟩) hRl).trans hf2
    have hz : Below w.heap.size w w1 := hbel.trans (hb'.mono hbel.size)
    clear hb hb' hR0 hR1 hR2 hf0 hf1 hf2
    go_wp2_with fail
    exact bodyPost_ret (v := .agg #[.int .i64 (subI a x), .int .i64 (subI b y), .int .i64 (subI c z)]) (by simp [results, Try.results54, go_sem, r0, r1, r2]) rfl ⟨rfl, ((hz.setCell (by simp; omega) _).setCell (by simp; omega) _).setCell (by simp; omega) _⟩
end Go.Proofs.Ytddeilhelkfpoaa
namespace Go.Proofs.Ytddeilhelkfpoaa
open Go.RowKit
set_option maxRecDepth 100000

set_option maxHeartbeats 1000000 in
theorem Plus_calls (a b c x y z : Int) (w : World) : Calls Try.prog 25 #[.agg #[.int .i64 a, .int .i64 b, .int .i64 c], .agg #[.int .i64 x, .int .i64 y, .int .i64 z]] w fun e w' => e = .returned (.agg #[.int .i64 (addI a x), .int .i64 (addI b y), .int .i64 (addI c z)]) ∧ Below w.heap.size w w' := by
  go_enter Try.func25, Try.ntmps25
  go_wp2_with fail
  refine (each_plus _ _ _ _ _ _ _).mono ?_
  rintro e w1 ⟨rfl, hb⟩
  have r0 : w1.cell? ⟨w.heap.size + 1 + 1, 0, none⟩ = some (.int .i64 0) := (hb.cell (by simp)).trans (by simp [go_sem])
  have r1 : w1.cell? ⟨w.heap.size + 1 + 1, 1, none⟩ = some (.int .i64 0) := (hb.cell (by simp)).trans (by simp [go_sem])
  have r2 : w1.cell? ⟨w.heap.size + 1 + 1, 2, none⟩ = some (.int .i64 0) := (hb.cell (by simp)).trans (by simp [go_sem])
  have f0 : w1.frozen? ⟨w.heap.size + 1 + 1, 0, none⟩ = false := (hb.frozen (by simp)).trans (by simp [go_sem])
  have f1 : w1.frozen? ⟨w.heap.size + 1 + 1, 1, none⟩ = false := (hb.frozen (by simp)).trans (by simp [go_sem])
  have f2 : w1.frozen? ⟨w.heap.size + 1 + 1, 2, none⟩ = false := (hb.frozen (by simp)).trans (by simp [go_sem])
  have hz : Below w.heap.size w w1 := ((((Below.refl w.heap.size w).alloc (Nat.le_refl _) _).alloc (by simp) _).alloc (by simp; omega) _).trans (hb.mono (by simp; omega))
  clear hb
  go_wp2_with fail
  exact bodyPost_ret (v := .agg #[.int .i64 (addI a x), .int .i64 (addI b y), .int .i64 (addI c z)]) (by simp [results, Try.results25, go_sem, r0, r1, r2]) rfl ⟨rfl, ((hz.setCell (by simp; omega) _).setCell (by simp; omega) _).setCell (by simp; omega) _⟩
set_option maxHeartbeats 1000000 in
theorem Minus_calls (a b c x y z : Int) (w : World) : Calls Try.prog 37 #[.agg #[.int .i64 a, .int .i64 b, .int .i64 c], .agg #[.int .i64 x, .int .i64 y, .int .i64 z]] w fun e w' => e = .returned (.agg #[.int .i64 (subI a x), .int .i64 (subI b y), .int .i64 (subI c z)]) ∧ Below w.heap.size w w' := by
  go_enter Try.func37, Try.ntmps37
  go_wp2_with fail
  refine (each_minus _ _ _ _ _ _ _).mono ?_
  rintro e w1 ⟨rfl, hb⟩
  have r0 : w1.cell? ⟨w.heap.size + 1 + 1, 0, none⟩ = some (.int .i64 0) := (hb.cell (by simp)).trans (by simp [go_sem])
  have r1 : w1.cell? ⟨w.heap.size + 1 + 1, 1, none⟩ = some (.int .i64 0) := (hb.cell (by simp)).trans (by simp [go_sem])
  have r2 : w1.cell? ⟨w.heap.size + 1 + 1, 2, none⟩ = some (.int .i64 0) := (hb.cell (by simp)).trans (by simp [go_sem])
  have f0 : w1.frozen? ⟨w.heap.size + 1 + 1, 0, none⟩ = false := (hb.frozen (by simp)).trans (by simp [go_sem])
  have f1 : w1.frozen? ⟨w.heap.size + 1 + 1, 1, none⟩ = false := (hb.frozen (by simp)).trans (by simp [go_sem])
  have f2 : w1.frozen? ⟨w.heap.size + 1 + 1, 2, none⟩ = false := (hb.frozen (by simp)).trans (by simp [go_sem])
  have hz : Below w.heap.size w w1 := ((((Below.refl w.heap.size w).alloc (Nat.le_refl _) _).alloc (by simp) _).alloc (by simp; omega) _).trans (hb.mono (by simp; omega))
  clear hb
  go_wp2_with fail
  exact bodyPost_ret (v := .agg #[.int .i64 (subI a x), .int .i64 (subI b y), .int .i64 (subI c z)]) (by simp [results, Try.results37, go_sem, r0, r1, r2]) rfl ⟨rfl, ((hz.setCell (by simp; omega) _).setCell (by simp; omega) _).setCell (by simp; omega) _⟩

theorem subI_zero (a x : Int) : subI a x = 0 ↔ clampI a ≤ clampI x := by
  rw [subI_def]
  split <;> omega
theorem fits_eq (a b c x y z : Int) : fitsB a b c x y z = (decide (subI a x = 0) && decide (subI b y = 0) && decide (subI c z = 0)) := by
  unfold fitsB
  simp only [subI_zero]

end Go.Proofs.Ytddeilhelkfpoaa
