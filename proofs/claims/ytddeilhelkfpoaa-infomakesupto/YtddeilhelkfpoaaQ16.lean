/- The document's Free and Clash. Condition: the arguments lie as is said of them. info.Free and info.Clash. Condition: the arguments lie as is said of them. The chapter's example works. No condition. pods hands back a row of its own. Condition: the slice lies as is said of it. Arguments as they come in: texts and slices of structs, read off memory. No condition beyond the row's own reach. Arguments as they come in, whatever their type: read off memory, they lie as said. No condition beyond the row's own reach. -/
import Derived.Test.YtddeilhelkfpoaaQ03
import Derived.Test.YtddeilhelkfpoaaQ07
import Derived.Test.YtddeilhelkfpoaaQ09
import Derived.Test.YtddeilhelkfpoaaQ15
import Derived.Test.YtddeilhelkfpoaaQ13
import Derived.Test.YtddeilhelkfpoaaQ01
import Derived.Deep.Slices
import Derived.Deep.Strs
import Derived.SizedLaws
namespace Go.Proofs.Ytddeilhelkfpoaa
open Go.RowKit
set_option linter.unusedSimpArgs false
set_option maxRecDepth 100000

set_option maxHeartbeats 2000000 in
theorem rFree_calls (cs : List Value) (A : Where) (x : InfoD) (w : World) (h : Hid (RInfo A w cs x)) : Calls Try.prog 13 #[.agg cs.toArray] w fun e w' => e = .returned (.agg #[.int .i64 (freeP x).1, .int .i64 (freeP x).2.1, .int .i64 (freeP x).2.2]) ∧ Below w.heap.size w w' := by
  obtain ⟨⟨nn, nl, nt, no, ⟨ga, gb, gc⟩, np, nd⟩, nms, ⟨ua, ub, uc⟩, pts, dks⟩ := x
  obtain ⟨⟨a1, n1, m1⟩, ⟨a2, n2, m2⟩, ⟨a9, n9, m9⟩, ⟨a13, n13, m13⟩, ⟨a14, n14, m14⟩, rfl, _⟩ := h.out.out
  simp only [freeP, minusR]
  clear h
  obtain ⟨W2, hW2⟩ : ∃ W2, W2 = (w.alloc (.cells #[.string nn, .slice a1 n1 m1, .slice a2 n2 m2, .bool no, .int .i64 ga, .int .i64 gb, .int .i64 gc, .int .i64 np, .int .i64 nd, .slice a9 n9 m9, .int .i64 ua, .int .i64 ub, .int .i64 uc, .slice a13 n13 m13, .slice a14 n14 m14] 41)).alloc (.cells #[.int .i64 0, .int .i64 0, .int .i64 0] 25) := ⟨_, rfl⟩
  have B2 : PB2 w W2 [.string nn, .slice a1 n1 m1, .slice a2 n2 m2, .bool no, .int .i64 ga, .int .i64 gb, .int .i64 gc, .int .i64 np, .int .i64 nd, .slice a9 n9 m9, .int .i64 ua, .int .i64 ub, .int .i64 uc, .slice a13 n13 m13, .slice a14 n14 m14] [.int .i64 0, .int .i64 0, .int .i64 0] := by
    rw [hW2]
    refine ⟨(BoxL.new w 41 [.string nn, .slice a1 n1 m1, .slice a2 n2 m2, .bool no, .int .i64 ga, .int .i64 gb, .int .i64 gc, .int .i64 np, .int .i64 nd, .slice a9 n9 m9, .int .i64 ua, .int .i64 ub, .int .i64 uc, .slice a13 n13 m13, .slice a14 n14 m14]).on ((Below.refl _ _).alloc (Nat.le_refl _) _), ?_, by go_grown⟩
    have := BoxL.new (w.alloc (.cells #[.string nn, .slice a1 n1 m1, .slice a2 n2 m2, .bool no, .int .i64 ga, .int .i64 gb, .int .i64 gc, .int .i64 np, .int .i64 nd, .slice a9 n9 m9, .int .i64 ua, .int .i64 ub, .int .i64 uc, .slice a13 n13 m13, .slice a14 n14 m14] 41)) 25 [.int .i64 0, .int .i64 0, .int .i64 0]
    simpa using this
  have HB2 : Hid (PB2 w W2 [.string nn, .slice a1 n1 m1, .slice a2 n2 m2, .bool no, .int .i64 ga, .int .i64 gb, .int .i64 gc, .int .i64 np, .int .i64 nd, .slice a9 n9 m9, .int .i64 ua, .int .i64 ub, .int .i64 uc, .slice a13 n13 m13, .slice a14 n14 m14] [.int .i64 0, .int .i64 0, .int .i64 0]) := B2
  clear B2
  go_enter Try.func13, Try.ntmps13
  go_wp2_with fail
  rw [← hW2]
  clear hW2
  refine (rminus_calls ga gb gc ua ub uc W2).mono ?_
  rintro e w3 ⟨rfl, hb3⟩
  have C := HB2.out.on hb3
  obtain ⟨z0, f0⟩ := C.y.2 0 _ rfl
  obtain ⟨z1, f1⟩ := C.y.2 1 _ rfl
  obtain ⟨z2, f2⟩ := C.y.2 2 _ rfl
  have hb : Hid (Below w.heap.size w w3) := C.b
  clear C HB2 hb3
  go_wp2_with fail
  refine bodyPost_ret (v := .agg #[.int .i64 (subI ga ua), .int .i64 (subI gb ub), .int .i64 (subI gc uc)]) (by simp [results, Try.results13, go_sem, z0, z1, z2]) rfl ⟨rfl, ?_⟩
  exact ((hb.out.setCell (by simp) _).setCell (by simp) _).setCell (by simp) _
theorem clash_succ (V : List Int) (L : List Int) {k : Nat} (hk : k < L.length) : (L.take (k + 1)).any (fun q => hasB iEq V q) = ((L.take k).any (fun q => hasB iEq V q) || hasB iEq V (L.getD k default)) := by
  rw [← take_at hk]; simp
set_option maxHeartbeats 2000000 in
theorem rClash_calls (cs ds : List Value) (A A' : Where) (x : InfoD) (y : PodD) (w : World) (h : Hid (RInfo A w cs x)) (h' : Hid (RPod A' w ds y)) : Calls Try.prog 15 #[.agg cs.toArray, .agg ds.toArray] w fun e w' => e = .returned (.bool (clashP x y)) ∧ Below w.heap.size w w' := by
  obtain ⟨⟨nn, nl, nt, no, ⟨ga, gb, gc⟩, np, nd⟩, nms, ⟨ua, ub, uc⟩, pts, dks⟩ := x
  obtain ⟨⟨a1, n1, m1⟩, ⟨a2, n2, m2⟩, ⟨a9, n9, m9⟩, ⟨a13, n13, m13⟩, ⟨a14, n14, m14⟩, rfl, _, _, _, _, s13, _⟩ := h.out.out
  obtain ⟨g2, g6, g7, g8, ⟨b9, l9, k9⟩, g10, g11, g12, g13, rfl, _, _, _, _, _, t9, _⟩ := h'.out.out
  simp only at s13 t9
  have S13 : Hid (SlAt RInt 1 8 A w a13 n13 m13 pts) := s13
  have T9 : Hid (SlAt RInt 1 8 A' w b9 l9 k9 (pPorts y)) := t9
  have hE : Hid (clashP ((nn, nl, nt, no, (ga, gb, gc), np, nd), nms, (ua, ub, uc), pts, dks) y = (pPorts y).any (fun q => hasB iEq pts q)) := rfl
  rw [hE.out]
  generalize hpp : pPorts y = prt at T9
  have hlen := T9.out.len (by decide)
  have hn : Hid (prt.length = l9) := T9.out.1
  clear h h' s13 t9 hE hpp

  obtain ⟨W2, hW2⟩ : ∃ W2, W2 = (w.alloc (.cells #[.string nn, .slice a1 n1 m1, .slice a2 n2 m2, .bool no, .int .i64 ga, .int .i64 gb, .int .i64 gc, .int .i64 np, .int .i64 nd, .slice a9 n9 m9, .int .i64 ua, .int .i64 ub, .int .i64 uc, .slice a13 n13 m13, .slice a14 n14 m14] 41)).alloc (.cells #[.string y.1, .int .i64 y.2.1, .slice g2.1 g2.2.1 g2.2.2, .int .i64 y.2.2.2.1.1, .int .i64 y.2.2.2.1.2.1, .int .i64 y.2.2.2.1.2.2, .slice g6.1 g6.2.1 g6.2.2, .slice g7.1 g7.2.1 g7.2.2, .slice g8.1 g8.2.1 g8.2.2, .slice b9 l9 k9, .slice g10.1 g10.2.1 g10.2.2, .slice g11.1 g11.2.1 g11.2.2, .slice g12.1 g12.2.1 g12.2.2, .slice g13.1 g13.2.1 g13.2.2, .string y.2.2.2.2.2.2.2.2.2.2.2.2.1, .string y.2.2.2.2.2.2.2.2.2.2.2.2.2] 37) := ⟨_, rfl⟩
  have B2 : Hid (PB2 w W2 [.string nn, .slice a1 n1 m1, .slice a2 n2 m2, .bool no, .int .i64 ga, .int .i64 gb, .int .i64 gc, .int .i64 np, .int .i64 nd, .slice a9 n9 m9, .int .i64 ua, .int .i64 ub, .int .i64 uc, .slice a13 n13 m13, .slice a14 n14 m14] [.string y.1, .int .i64 y.2.1, .slice g2.1 g2.2.1 g2.2.2, .int .i64 y.2.2.2.1.1, .int .i64 y.2.2.2.1.2.1, .int .i64 y.2.2.2.1.2.2, .slice g6.1 g6.2.1 g6.2.2, .slice g7.1 g7.2.1 g7.2.2, .slice g8.1 g8.2.1 g8.2.2, .slice b9 l9 k9, .slice g10.1 g10.2.1 g10.2.2, .slice g11.1 g11.2.1 g11.2.2, .slice g12.1 g12.2.1 g12.2.2, .slice g13.1 g13.2.1 g13.2.2, .string y.2.2.2.2.2.2.2.2.2.2.2.2.1, .string y.2.2.2.2.2.2.2.2.2.2.2.2.2]) := by
    rw [hW2]
    refine ⟨(BoxL.new w 41 [.string nn, .slice a1 n1 m1, .slice a2 n2 m2, .bool no, .int .i64 ga, .int .i64 gb, .int .i64 gc, .int .i64 np, .int .i64 nd, .slice a9 n9 m9, .int .i64 ua, .int .i64 ub, .int .i64 uc, .slice a13 n13 m13, .slice a14 n14 m14]).on ((Below.refl _ _).alloc (Nat.le_refl _) _), ?_, by go_grown⟩
    have := BoxL.new (w.alloc (.cells #[.string nn, .slice a1 n1 m1, .slice a2 n2 m2, .bool no, .int .i64 ga, .int .i64 gb, .int .i64 gc, .int .i64 np, .int .i64 nd, .slice a9 n9 m9, .int .i64 ua, .int .i64 ub, .int .i64 uc, .slice a13 n13 m13, .slice a14 n14 m14] 41)) 37 [.string y.1, .int .i64 y.2.1, .slice g2.1 g2.2.1 g2.2.2, .int .i64 y.2.2.2.1.1, .int .i64 y.2.2.2.1.2.1, .int .i64 y.2.2.2.1.2.2, .slice g6.1 g6.2.1 g6.2.2, .slice g7.1 g7.2.1 g7.2.2, .slice g8.1 g8.2.1 g8.2.2, .slice b9 l9 k9, .slice g10.1 g10.2.1 g10.2.2, .slice g11.1 g11.2.1 g11.2.2, .slice g12.1 g12.2.1 g12.2.2, .slice g13.1 g13.2.1 g13.2.2, .string y.2.2.2.2.2.2.2.2.2.2.2.2.1, .string y.2.2.2.2.2.2.2.2.2.2.2.2.2]
    simpa using this
  go_enter Try.func15, Try.ntmps15
  go_wp2_with fail
  rw [← hW2]
  clear hW2
  go_loopw [5] (fun i wr => ∃ k : Nat, k ≤ l9 ∧ i = .int .i64 k ∧ Hid (PB2 w wr [.string nn, .slice a1 n1 m1, .slice a2 n2 m2, .bool no, .int .i64 ga, .int .i64 gb, .int .i64 gc, .int .i64 np, .int .i64 nd, .slice a9 n9 m9, .int .i64 ua, .int .i64 ub, .int .i64 uc, .slice a13 n13 m13, .slice a14 n14 m14] [.string y.1, .int .i64 y.2.1, .slice g2.1 g2.2.1 g2.2.2, .int .i64 y.2.2.2.1.1, .int .i64 y.2.2.2.1.2.1, .int .i64 y.2.2.2.1.2.2, .slice g6.1 g6.2.1 g6.2.2, .slice g7.1 g7.2.1 g7.2.2, .slice g8.1 g8.2.1 g8.2.2, .slice b9 l9 k9, .slice g10.1 g10.2.1 g10.2.2, .slice g11.1 g11.2.1 g11.2.2, .slice g12.1 g12.2.1 g12.2.2, .slice g13.1 g13.2.1 g13.2.2, .string y.2.2.2.2.2.2.2.2.2.2.2.2.1, .string y.2.2.2.2.2.2.2.2.2.2.2.2.2]) ∧ Hid ((prt.take k).any (fun q => hasB iEq pts q) = false)) (fun i _ => l9 - (intOf i).toNat)
  case atStart => exact ⟨0, Nat.zero_le _, rfl, B2, rfl⟩
  case round =>
    obtain ⟨k, hk, rfl, hB, hno⟩ := hrel
    obtain ⟨p9, _⟩ := hB.out.y.2 9 _ rfl
    obtain ⟨p13, _⟩ := hB.out.p.2 13 _ rfl
    by_cases hlt : k < l9
    · have hltz : (k : Int) < (l9 : Int) := by omega
      have hkl : k < prt.length := by rw [hn.out]; exact hlt
      obtain ⟨D, off, rfl, hD, _, cs, hr, hv⟩ := (T9.out.on RInt.firm hB.out.b).get hlt
      obtain rfl := hr
      have d0 := hv 0 _ rfl
      simp only [Nat.mul_one, Nat.add_zero] at d0
      clear hv
      have HN : Hid ((prt.take (k + 1)).any (fun q => hasB iEq pts q) = ((prt.take k).any (fun q => hasB iEq pts q) || hasB iEq pts (prt.getD k default))) := clash_succ pts prt hkl
      have HF : Hid (hasB iEq pts (prt.getD k default) = true → prt.any (fun q => hasB iEq pts q) = true) := fun h => by rw [List.any_eq_true]; exact ⟨prt.getD k default, by rw [getE _ _ hkl]; exact List.getElem_mem hkl, h⟩
      have HM : Hid (∀ m, Calls Try.prog 42 #[.slice a13 n13 m13, .int .i64 (prt.getD k default)] (wr.drewN m) fun e w' => e = .returned (.bool (hasB iEq pts (prt.getD k default))) ∧ ∃ q, w' = (wr.drewN m).drewN q) := fun m => (HasInt_calls a13 n13 m13 A pts _ (wr.drewN m) (S13.out.on RInt.firm (on2 hB.out.b (below_drewN (Below.refl _ _) _)))).mono (fun e w9 h => ⟨h.1, 0, h.2⟩)
      generalize prt.getD k default = q at d0 HN HF HM
      generalize hh : hasB iEq pts q = r at HN HF HM
      clear hh
      cases r
      · have HN2 : Hid ((prt.take (k + 1)).any (fun q => hasB iEq pts q) = false) := by rw [Hid, HN.out, hno.out]; rfl
        clear HN HF
        go_wp2_with fail
        go_quiet ((go_at_call 42; exact Calls.quiet_of (HM.out _)))
        go_wp2_with fail
        go_roundw
        case rel => exact ⟨k + 1, by omega, by go_num, hB.out.on (below_drewN (Below.refl _ _) _), HN2⟩
        case measure => simp [intOf]; omega
      · have HF2 : Hid (prt.any (fun q => hasB iEq pts q) = true) := HF.out rfl
        clear HN HF
        go_wp2_with fail
        go_quiet ((go_at_call 42; exact Calls.quiet_of (HM.out _)))
        go_wp2_with fail
        go_ret
        exact ⟨retB HF2.out.symm, (hB.out.on (below_drewN (Below.refl _ _) _)).b⟩
    · have hk9 : prt.take k = prt := List.take_of_length_le (by rw [hn.out]; omega)
      rw [hk9] at hno
      have hlz : ¬ ((k : Int) < (l9 : Int)) := by omega
      go_wp2_with fail
      go_ret
      exact ⟨retB hno.out.symm, hB.out.b⟩
end Go.Proofs.Ytddeilhelkfpoaa
namespace Go.Proofs.Ytddeilhelkfpoaa
open Go.RowKit
set_option linter.unusedSimpArgs false
set_option maxRecDepth 100000

set_option maxHeartbeats 2000000 in
theorem Free_calls (cs : List Value) (A : Where) (x : InfoD) (w : World) (h : Hid (RInfo A w cs x)) : Calls Try.prog 12 #[.agg cs.toArray] w fun e w' => e = .returned (.agg #[.int .i64 (freeP x).1, .int .i64 (freeP x).2.1, .int .i64 (freeP x).2.2]) ∧ Below w.heap.size w w' := by
  obtain ⟨⟨nn, nl, nt, no, ⟨ga, gb, gc⟩, np, nd⟩, nms, ⟨ua, ub, uc⟩, pts, dks⟩ := x
  obtain ⟨⟨a1, n1, m1⟩, ⟨a2, n2, m2⟩, ⟨a9, n9, m9⟩, ⟨a13, n13, m13⟩, ⟨a14, n14, m14⟩, rfl, _⟩ := h.out.out
  simp only [freeP, minusR]
  clear h
  obtain ⟨W2, hW2⟩ : ∃ W2, W2 = (w.alloc (.cells #[.string nn, .slice a1 n1 m1, .slice a2 n2 m2, .bool no, .int .i64 ga, .int .i64 gb, .int .i64 gc, .int .i64 np, .int .i64 nd, .slice a9 n9 m9, .int .i64 ua, .int .i64 ub, .int .i64 uc, .slice a13 n13 m13, .slice a14 n14 m14] 41)).alloc (.cells #[.int .i64 0, .int .i64 0, .int .i64 0] 25) := ⟨_, rfl⟩
  have B2 : PB2 w W2 [.string nn, .slice a1 n1 m1, .slice a2 n2 m2, .bool no, .int .i64 ga, .int .i64 gb, .int .i64 gc, .int .i64 np, .int .i64 nd, .slice a9 n9 m9, .int .i64 ua, .int .i64 ub, .int .i64 uc, .slice a13 n13 m13, .slice a14 n14 m14] [.int .i64 0, .int .i64 0, .int .i64 0] := by
    rw [hW2]
    refine ⟨(BoxL.new w 41 [.string nn, .slice a1 n1 m1, .slice a2 n2 m2, .bool no, .int .i64 ga, .int .i64 gb, .int .i64 gc, .int .i64 np, .int .i64 nd, .slice a9 n9 m9, .int .i64 ua, .int .i64 ub, .int .i64 uc, .slice a13 n13 m13, .slice a14 n14 m14]).on ((Below.refl _ _).alloc (Nat.le_refl _) _), ?_, by go_grown⟩
    have := BoxL.new (w.alloc (.cells #[.string nn, .slice a1 n1 m1, .slice a2 n2 m2, .bool no, .int .i64 ga, .int .i64 gb, .int .i64 gc, .int .i64 np, .int .i64 nd, .slice a9 n9 m9, .int .i64 ua, .int .i64 ub, .int .i64 uc, .slice a13 n13 m13, .slice a14 n14 m14] 41)) 25 [.int .i64 0, .int .i64 0, .int .i64 0]
    simpa using this
  have HB2 : Hid (PB2 w W2 [.string nn, .slice a1 n1 m1, .slice a2 n2 m2, .bool no, .int .i64 ga, .int .i64 gb, .int .i64 gc, .int .i64 np, .int .i64 nd, .slice a9 n9 m9, .int .i64 ua, .int .i64 ub, .int .i64 uc, .slice a13 n13 m13, .slice a14 n14 m14] [.int .i64 0, .int .i64 0, .int .i64 0]) := B2
  clear B2
  go_enter Try.func12, Try.ntmps12
  go_wp2_with fail
  rw [← hW2]
  clear hW2
  refine (Minus_calls ga gb gc ua ub uc W2).mono ?_
  rintro e w3 ⟨rfl, hb3⟩
  have C := HB2.out.on hb3
  obtain ⟨z0, f0⟩ := C.y.2 0 _ rfl
  obtain ⟨z1, f1⟩ := C.y.2 1 _ rfl
  obtain ⟨z2, f2⟩ := C.y.2 2 _ rfl
  have hb : Hid (Below w.heap.size w w3) := C.b
  clear C HB2 hb3
  go_wp2_with fail
  refine bodyPost_ret (v := .agg #[.int .i64 (subI ga ua), .int .i64 (subI gb ub), .int .i64 (subI gc uc)]) (by simp [results, Try.results12, go_sem, z0, z1, z2]) rfl ⟨rfl, ?_⟩
  exact ((hb.out.setCell (by simp) _).setCell (by simp) _).setCell (by simp) _
set_option maxHeartbeats 1000000 in
theorem clashFn (D : Nat) (a : Option Addr) (n cap : Nat) (A : Where) (V : List Int) (p : Int) (w : World) (hc : w.cell? ⟨D, 13, none⟩ = some (.slice a n cap)) (hV : Hid (SlAt RInt 1 8 A w a n cap V)) : Calls Try.prog 40 (#[.int .i64 p] ++ #[.pointer (some ⟨D, 0, none⟩)]) w fun e w' => e = .returned (.bool (hasB iEq V p)) ∧ Below w.heap.size w w' := by
  show Calls Try.prog 40 #[.int .i64 p, .pointer (some ⟨D, 0, none⟩)] w _
  go_enter Try.func40, Try.ntmps40
  go_wp2_with fail
  refine (ContainsI a n cap A V p w hV).mono ?_
  rintro e w1 ⟨rfl, rfl⟩
  go_wp2_with fail
  go_ret
  exact ⟨rfl, Below.refl _ _⟩
set_option maxHeartbeats 2000000 in
theorem Clash_calls (cs ds : List Value) (A A' : Where) (x : InfoD) (y : PodD) (w : World) (h : Hid (RInfo A w cs x)) (h' : Hid (RPod A' w ds y)) : Calls Try.prog 14 #[.agg cs.toArray, .agg ds.toArray] w fun e w' => e = .returned (.bool (clashP x y)) ∧ Below w.heap.size w w' := by
  obtain ⟨⟨nn, nl, nt, no, ⟨ga, gb, gc⟩, np, nd⟩, nms, ⟨ua, ub, uc⟩, pts, dks⟩ := x
  obtain ⟨⟨a1, n1, m1⟩, ⟨a2, n2, m2⟩, ⟨a9, n9, m9⟩, ⟨a13, n13, m13⟩, ⟨a14, n14, m14⟩, rfl, _, _, _, _, s13, _⟩ := h.out.out
  obtain ⟨g2, g6, g7, g8, ⟨b9, l9, k9⟩, g10, g11, g12, g13, rfl, _, _, _, _, _, t9, _⟩ := h'.out.out
  simp only at s13 t9
  have S13 : Hid (SlAt RInt 1 8 A w a13 n13 m13 pts) := s13
  have T9 : Hid (SlAt RInt 1 8 A' w b9 l9 k9 (pPorts y)) := t9
  have hE : Hid (clashP ((nn, nl, nt, no, (ga, gb, gc), np, nd), nms, (ua, ub, uc), pts, dks) y = (pPorts y).any (fun q => hasB iEq pts q)) := rfl
  rw [hE.out]
  generalize hpp : pPorts y = prt at T9
  have hlen := T9.out.len (by decide)
  have hn : Hid (prt.length = l9) := T9.out.1
  clear h h' s13 t9 hE hpp

  obtain ⟨W2, hW2⟩ : ∃ W2, W2 = (w.alloc (.cells #[.string nn, .slice a1 n1 m1, .slice a2 n2 m2, .bool no, .int .i64 ga, .int .i64 gb, .int .i64 gc, .int .i64 np, .int .i64 nd, .slice a9 n9 m9, .int .i64 ua, .int .i64 ub, .int .i64 uc, .slice a13 n13 m13, .slice a14 n14 m14] 41)).alloc (.cells #[.string y.1, .int .i64 y.2.1, .slice g2.1 g2.2.1 g2.2.2, .int .i64 y.2.2.2.1.1, .int .i64 y.2.2.2.1.2.1, .int .i64 y.2.2.2.1.2.2, .slice g6.1 g6.2.1 g6.2.2, .slice g7.1 g7.2.1 g7.2.2, .slice g8.1 g8.2.1 g8.2.2, .slice b9 l9 k9, .slice g10.1 g10.2.1 g10.2.2, .slice g11.1 g11.2.1 g11.2.2, .slice g12.1 g12.2.1 g12.2.2, .slice g13.1 g13.2.1 g13.2.2, .string y.2.2.2.2.2.2.2.2.2.2.2.2.1, .string y.2.2.2.2.2.2.2.2.2.2.2.2.2] 37) := ⟨_, rfl⟩
  have B2 : Hid (PB2 w W2 [.string nn, .slice a1 n1 m1, .slice a2 n2 m2, .bool no, .int .i64 ga, .int .i64 gb, .int .i64 gc, .int .i64 np, .int .i64 nd, .slice a9 n9 m9, .int .i64 ua, .int .i64 ub, .int .i64 uc, .slice a13 n13 m13, .slice a14 n14 m14] [.string y.1, .int .i64 y.2.1, .slice g2.1 g2.2.1 g2.2.2, .int .i64 y.2.2.2.1.1, .int .i64 y.2.2.2.1.2.1, .int .i64 y.2.2.2.1.2.2, .slice g6.1 g6.2.1 g6.2.2, .slice g7.1 g7.2.1 g7.2.2, .slice g8.1 g8.2.1 g8.2.2, .slice b9 l9 k9, .slice g10.1 g10.2.1 g10.2.2, .slice g11.1 g11.2.1 g11.2.2, .slice g12.1 g12.2.1 g12.2.2, .slice g13.1 g13.2.1 g13.2.2, .string y.2.2.2.2.2.2.2.2.2.2.2.2.1, .string y.2.2.2.2.2.2.2.2.2.2.2.2.2]) := by
    rw [hW2]
    refine ⟨(BoxL.new w 41 [.string nn, .slice a1 n1 m1, .slice a2 n2 m2, .bool no, .int .i64 ga, .int .i64 gb, .int .i64 gc, .int .i64 np, .int .i64 nd, .slice a9 n9 m9, .int .i64 ua, .int .i64 ub, .int .i64 uc, .slice a13 n13 m13, .slice a14 n14 m14]).on ((Below.refl _ _).alloc (Nat.le_refl _) _), ?_, by go_grown⟩
    have := BoxL.new (w.alloc (.cells #[.string nn, .slice a1 n1 m1, .slice a2 n2 m2, .bool no, .int .i64 ga, .int .i64 gb, .int .i64 gc, .int .i64 np, .int .i64 nd, .slice a9 n9 m9, .int .i64 ua, .int .i64 ub, .int .i64 uc, .slice a13 n13 m13, .slice a14 n14 m14] 41)) 37 [.string y.1, .int .i64 y.2.1, .slice g2.1 g2.2.1 g2.2.2, .int .i64 y.2.2.2.1.1, .int .i64 y.2.2.2.1.2.1, .int .i64 y.2.2.2.1.2.2, .slice g6.1 g6.2.1 g6.2.2, .slice g7.1 g7.2.1 g7.2.2, .slice g8.1 g8.2.1 g8.2.2, .slice b9 l9 k9, .slice g10.1 g10.2.1 g10.2.2, .slice g11.1 g11.2.1 g11.2.2, .slice g12.1 g12.2.1 g12.2.2, .slice g13.1 g13.2.1 g13.2.2, .string y.2.2.2.2.2.2.2.2.2.2.2.2.1, .string y.2.2.2.2.2.2.2.2.2.2.2.2.2]
    simpa using this
  have HP : Hid (PredI 40 #[.pointer (some ⟨w.heap.size, 0, none⟩)] (fun q => hasB iEq pts q) W2) := fun W p hb => clashFn w.heap.size a13 n13 m13 A pts p W ((B2.out.on hb).p.2 13 _ rfl).1 (S13.out.on RInt.firm (B2.out.on hb).b)
  have eg : ∀ args w, (callFunc 40 args).run Try.prog w = .ok (.enter 40 args) w := by intro args w; rfl
  obtain ⟨p9, _⟩ := B2.out.y.2 9 _ rfl
  have hb2 : Hid (Below w.heap.size w W2) := B2.out.b
  rw [hW2] at p9
  have HW : Hid (W2 = _) := hW2
  clear hW2
  go_enter Try.func14, Try.ntmps14
  go_wp2_with fail
  rw [← HW.out]
  refine (ContainsFuncI b9 l9 k9 A' prt W2 (T9.out.on RInt.firm hb2.out) (fun q => hasB iEq pts q) 40 #[.pointer (some ⟨w.heap.size, 0, none⟩)] eg HP).mono ?_
  rintro e w3 ⟨rfl, hb3⟩
  go_wp2_with fail
  go_ret
  exact ⟨rfl, on2 hb2.out hb3⟩
end Go.Proofs.Ytddeilhelkfpoaa
namespace Go.Proofs.Ytddeilhelkfpoaa
open Go.RowKit
set_option linter.unusedSimpArgs false
set_option maxRecDepth 100000

abbrev wA : ByteArray := ⟨#[97]⟩
abbrev wB : ByteArray := ⟨#[98]⟩
abbrev wNode : NodeD := (⟨#[110]⟩, [], [], false, (4000, 0, 0), 0, 0)
abbrev wPod (s : ByteArray) (c : Int) (p : List Int) : PodD := (s, 0, [], (c, 0, 0), [], [], [], p, [], [], [], [], ⟨#[]⟩, ⟨#[]⟩)
theorem wInfo : ofP wNode [wPod wA 1000 [], wPod wB 500 [80]] = (wNode, [wA, wB], (1500, 0, 0), [80], []) := by
  have e1 : sEq wA wB = false := by unfold sEq; rw [ByteArray.toList_eq, ByteArray.toList_eq]; rfl
  have e2 : sLt wA wB = true := by unfold sLt; rw [ByteArray.toList_eq, ByteArray.toList_eq]; rfl
  have e3 : sLt wB wA = false := by unfold sLt; rw [ByteArray.toList_eq, ByteArray.toList_eq]; rfl
  simp [ofP, ofAcc, ofStep, hasB, accInfo, sortB, insB, e1, e2, e3, plusR, pWant, pPorts, pClaims]
  decide
theorem wFree : freeP (wNode, [wA, wB], (1500, 0, 0), [80], []) = (2500, 0, 0) := by decide
theorem wClash : clashP (wNode, [wA, wB], (1500, 0, 0), [80], []) (wPod ⟨#[]⟩ 0 [9, 80]) = true := by decide
theorem wFits : FitsP [wPod wA 1000 [], wPod wB 500 [80]] := by constructor <;> decide
/-- A pod with nothing but a name, what it wants, and ports. -/
theorem wPod_at {A : Where} {u : World} (s : ByteArray) (c : Int) (p : List Int) (a : Option Addr) (n m : Nat) (hs : s.size ≤ 140737488355328) (hp : SlAt RInt 1 8 A u a n m p) : RPod A u [.string s, .int .i64 0, .slice none 0 0, .int .i64 c, .int .i64 0, .int .i64 0, .slice none 0 0, .slice none 0 0, .slice none 0 0, .slice a n m, .slice none 0 0, .slice none 0 0, .slice none 0 0, .slice none 0 0, .string ⟨#[]⟩, .string ⟨#[]⟩] (wPod s c p) :=
  RPod.mk (x := wPod s c p) (h2 := (none, 0, 0)) (h6 := (none, 0, 0)) (h7 := (none, 0, 0)) (h8 := (none, 0, 0)) (h9 := (a, n, m)) (h10 := (none, 0, 0)) (h11 := (none, 0, 0)) (h12 := (none, 0, 0)) (h13 := (none, 0, 0)) hs (SlAt.nil _ _ _ _ (fun _ => rfl)) (SlAt.nil _ _ _ _ (fun _ => rfl)) (SlAt.nil _ _ _ _ (fun _ => rfl)) (SlAt.nil _ _ _ _ (fun _ => rfl)) hp (SlAt.nil _ _ _ _ (fun _ => rfl)) (SlAt.nil _ _ _ _ (fun _ => rfl)) (SlAt.nil _ _ _ _ (fun _ => rfl)) (SlAt.nil _ _ _ _ (fun _ => rfl)) (Nat.zero_le _) (Nat.zero_le _)
/-- A literal list of numbers, or of texts. -/
theorem ints_new (A : Where) (u : World) (L : List Int) (hA : A u.heap.size) (hb : L.length * 8 ≤ 140737488351232) : SlAt RInt 1 8 A (u.alloc (.cells (L.map (Value.int .i64)).toArray 3)) (some ⟨u.heap.size, 0, none⟩) L.length L.length L := by
  have h := BoxL.new u 3 (L.map (Value.int .i64))
  refine ⟨rfl, Nat.le_refl _, (fun h => by cases h), hb, fun _ => ⟨u.heap.size, 0, rfl, h.1, hA, fun i hi => ⟨[.int .i64 (L.getD i default)], rfl, fun j v hj => ?_⟩⟩⟩
  have hj0 : j = 0 := by have := (List.getElem?_eq_some_iff.1 hj).1; simpa using this
  subst hj0
  simp only [List.getElem?_cons_zero, Option.some.injEq] at hj
  subst hj
  have := (h.2 i (.int .i64 (L.getD i default)) (by rw [List.getElem?_map, List.getElem?_eq_getElem hi, getE _ _ hi]; rfl)).1
  simpa using this
theorem strs_new (A : Where) (u : World) (L : List ByteArray) (hA : A u.heap.size) (hs : ∀ s ∈ L, s.size ≤ 140737488355328) (hb : L.length * 16 ≤ 140737488351232) : SlAt RStr 1 16 A (u.alloc (.cells (L.map Value.string).toArray 9)) (some ⟨u.heap.size, 0, none⟩) L.length L.length L := by
  have h := BoxL.new u 9 (L.map Value.string)
  refine ⟨rfl, Nat.le_refl _, (fun h => by cases h), hb, fun _ => ⟨u.heap.size, 0, rfl, h.1, hA, fun i hi => ⟨[.string (L.getD i default)], ⟨rfl, by rw [getE _ _ hi]; exact hs _ (List.getElem_mem hi)⟩, fun j v hj => ?_⟩⟩⟩
  have hj0 : j = 0 := by have := (List.getElem?_eq_some_iff.1 hj).1; simpa using this
  subst hj0
  simp only [List.getElem?_cons_zero, Option.some.injEq] at hj
  subst hj
  have := (h.2 i (.string (L.getD i default)) (by rw [List.getElem?_map, List.getElem?_eq_getElem hi, getE _ _ hi]; rfl)).1
  simpa using this
/-- A literal list of two pods. -/
theorem pods_new {A : Where} (u : World) (P Q : List Value) (p q : PodD) (hA : A u.heap.size) (hP : P.length = 16) (hp : RPod A (u.alloc (.cells (P ++ Q).toArray 37)) P p) (hq : RPod A (u.alloc (.cells (P ++ Q).toArray 37)) Q q) : SlAt RPod 16 296 A (u.alloc (.cells (P ++ Q).toArray 37)) (some ⟨u.heap.size, 0, none⟩) 2 2 [p, q] := by
  have h := BoxL.new u 37 (P ++ Q)
  refine ⟨rfl, Nat.le_refl _, (fun h => by cases h), by decide, fun _ => ⟨u.heap.size, 0, rfl, h.1, hA, fun i hi => ?_⟩⟩
  have hi2 : i = 0 ∨ i = 1 := by omega
  rcases hi2 with rfl | rfl
  · refine ⟨P, hp, fun j v hj => ?_⟩
    have hj1 := (List.getElem?_eq_some_iff.1 hj).1
    have := (h.2 j v (by rw [List.getElem?_append_left hj1]; exact hj)).1
    simpa using this
  · refine ⟨Q, hq, fun j v hj => ?_⟩
    have := (h.2 (16 + j) v (by rw [List.getElem?_append_right (by omega), hP, show 16 + j - 16 = j by omega]; exact hj)).1
    simpa using this
theorem wpList_load_want {ops : Array Oper} {rest : List Oper} {op : Oper} {a : Act} {w : World} {Q : Exit → Act → World → Prop} (hgd : Region.wanted op (yielded ops a.tmps) = true) (ty : TypeId) (x : Operand) (ho : op.op = .load ty x)
    (b o : Nat) (hx : a.eval x = .pointer (some ⟨b, o, none⟩)) (cs : List Value) (d : TypeDesc) (hc : w.rangeAt b o cs)
    (hu : Try.prog.underlying ty = some d) (hd : d.isRow = true) (hi : (Try.prog.info? ty).map (·.size) = some cs.length)
    (h : wpList Try.prog ops Q rest (a.put op.dst (.agg cs.toArray)) w) : wpList Try.prog ops Q (op :: rest) a w :=
  BigFrame.wpList_want hgd (fun _ hK => wp_load_mid ty x ho b o hx cs d hc hu hd hi (hK _ _ h))
set_option maxHeartbeats 8000000 in
theorem works_calls (w : World) : Calls Try.prog 19 #[] w fun e w' => e = .returned (.bool true) ∧ Below w.heap.size w w' := by
  obtain ⟨W2, hW2⟩ : ∃ W2, W2 = (w.alloc (.cells #[.int .i64 80] 3)).alloc (.cells #[.string ⟨#[97]⟩, .int .i64 0, .slice none 0 0, .int .i64 1000, .int .i64 0, .int .i64 0, .slice none 0 0, .slice none 0 0, .slice none 0 0, .slice none 0 0, .slice none 0 0, .slice none 0 0, .slice none 0 0, .slice none 0 0, .string ⟨#[]⟩, .string ⟨#[]⟩, .string ⟨#[98]⟩, .int .i64 0, .slice none 0 0, .int .i64 500, .int .i64 0, .int .i64 0, .slice none 0 0, .slice none 0 0, .slice none 0 0, .slice (some ⟨w.heap.size, 0, none⟩) 1 1, .slice none 0 0, .slice none 0 0, .slice none 0 0, .slice none 0 0, .string ⟨#[]⟩, .string ⟨#[]⟩] 37) := ⟨_, rfl⟩
  have hb2 : Below w.heap.size w W2 := by rw [hW2]; exact ((Below.refl _ _).alloc (Nat.le_refl _) _).alloc (by simp) _
  have HB2 : Hid (Below w.heap.size w W2) := hb2
  have HP : Hid (SlAt RPod 16 296 (Fresh w) W2 (some ⟨w.heap.size + 1, 0, none⟩) 2 2 [wPod wA 1000 [], wPod wB 500 [80]]) := by
    have h1 : SlAt RInt 1 8 (Fresh w) (w.alloc (.cells #[.int .i64 80] 3)) (some ⟨w.heap.size, 0, none⟩) 1 1 [80] := ints_new (Fresh w) w [80] (Nat.le_refl _) (by decide)
    have h2 : SlAt RInt 1 8 (Fresh w) ((w.alloc (.cells #[.int .i64 80] 3)).alloc (.cells (([.string ⟨#[97]⟩, .int .i64 0, .slice none 0 0, .int .i64 1000, .int .i64 0, .int .i64 0, .slice none 0 0, .slice none 0 0, .slice none 0 0, .slice none 0 0, .slice none 0 0, .slice none 0 0, .slice none 0 0, .slice none 0 0, .string ⟨#[]⟩, .string ⟨#[]⟩] : List Value) ++ ([.string ⟨#[98]⟩, .int .i64 0, .slice none 0 0, .int .i64 500, .int .i64 0, .int .i64 0, .slice none 0 0, .slice none 0 0, .slice none 0 0, .slice (some ⟨w.heap.size, 0, none⟩) 1 1, .slice none 0 0, .slice none 0 0, .slice none 0 0, .slice none 0 0, .string ⟨#[]⟩, .string ⟨#[]⟩] : List Value)).toArray 37)) (some ⟨w.heap.size, 0, none⟩) 1 1 [80] := h1.on RInt.firm ((Below.refl _ _).alloc (Nat.le_refl _) _)
    have h3 := pods_new (A := Fresh w) (w.alloc (.cells #[.int .i64 80] 3)) [.string ⟨#[97]⟩, .int .i64 0, .slice none 0 0, .int .i64 1000, .int .i64 0, .int .i64 0, .slice none 0 0, .slice none 0 0, .slice none 0 0, .slice none 0 0, .slice none 0 0, .slice none 0 0, .slice none 0 0, .slice none 0 0, .string ⟨#[]⟩, .string ⟨#[]⟩] [.string ⟨#[98]⟩, .int .i64 0, .slice none 0 0, .int .i64 500, .int .i64 0, .int .i64 0, .slice none 0 0, .slice none 0 0, .slice none 0 0, .slice (some ⟨w.heap.size, 0, none⟩) 1 1, .slice none 0 0, .slice none 0 0, .slice none 0 0, .slice none 0 0, .string ⟨#[]⟩, .string ⟨#[]⟩] (wPod wA 1000 []) (wPod wB 500 [80]) (by show w.heap.size ≤ _; simp) rfl (wPod_at wA 1000 [] none 0 0 (by decide) (SlAt.nil _ _ _ _ (fun _ => rfl))) (wPod_at wB 500 [80] (some ⟨w.heap.size, 0, none⟩) 1 1 (by decide) h2)
    rw [Hid, hW2]
    simpa using h3
  have HN : Hid (RNode (Fresh w) W2 [.string ⟨#[110]⟩, .slice none 0 0, .slice none 0 0, .bool false, .int .i64 4000, .int .i64 0, .int .i64 0, .int .i64 0, .int .i64 0] wNode) := RNode.mk (x := wNode) (h1 := (none, 0, 0)) (h2 := (none, 0, 0)) (by decide) (SlAt.nil _ _ _ _ (fun _ => rfl)) (SlAt.nil _ _ _ _ (fun _ => rfl))
  have HOf := Of_calls [.string ⟨#[110]⟩, .slice none 0 0, .slice none 0 0, .bool false, .int .i64 4000, .int .i64 0, .int .i64 0, .int .i64 0, .int .i64 0] (some ⟨w.heap.size + 1, 0, none⟩) 2 2 (Fresh w) (Fresh w) wNode [wPod wA 1000 [], wPod wB 500 [80]] W2 HN HP wFits
  rw [wInfo] at HOf
  have hgr := guardR
  have hqr := eqR_same 2500 0 0
  clear hb2 HP HN
  go_enter Try.func19, Try.ntmps19
  go_wp2_with fail
  rw [← hW2]
  clear hW2
  refine HOf.mono ?_
  clear HOf
  rintro e w3 ⟨fs, rfl, hI, _, hb3⟩
  have hI0 := hI.info
  obtain ⟨⟨a1, n1, m1⟩, ⟨a2, n2, m2⟩, ⟨a9, n9, m9⟩, ⟨a13, n13, m13⟩, ⟨a14, n14, m14⟩, rfl, _, _, _, s9, _, _⟩ := hI0.out
  simp only at s9 hI0
  have HI0 : Hid (∀ u, Below w3.heap.size w3 u → RInfo (fun b => Fresh w b ∨ Fresh W2 b) u [.string ⟨#[110]⟩, .slice a1 n1 m1, .slice a2 n2 m2, .bool false, .int .i64 4000, .int .i64 0, .int .i64 0, .int .i64 0, .int .i64 0, .slice a9 n9 m9, .int .i64 1500, .int .i64 0, .int .i64 0, .slice a13 n13 m13, .slice a14 n14 m14] (wNode, [wA, wB], (1500, 0, 0), [80], [])) := fun u hb => RInfo.firm.kept hI0 (Kept.below hb)
  have S9 : Hid (∀ u, Below w3.heap.size w3 u → SlAt RStr 1 16 (fun b => Fresh w b ∨ Fresh W2 b) u a9 n9 m9 [wA, wB]) := fun u hb => s9.on RStr.firm hb
  have HB3 : Hid (Below w.heap.size w w3) := on2 HB2.out hb3
  have HO1 : Hid ((([.string ⟨#[110]⟩, .slice a1 n1 m1, .slice a2 n2 m2, .bool false, .int .i64 4000, .int .i64 0, .int .i64 0, .int .i64 0, .int .i64 0, .slice a9 n9 m9, .int .i64 1500, .int .i64 0, .int .i64 0, .slice a13 n13 m13, .slice a14 n14 m14] : List Value).toArray).all (·.oneCell') = true) := all_oneCell_toArray (RInfo.firm.one hI0)
  clear hI hI0 s9 hb3 HB2
  obtain ⟨W5, hW5⟩ : ∃ W5, W5 = (w3.alloc (.cells #[.string ⟨#[]⟩, .slice none 0 0, .slice none 0 0, .bool false, .int .i64 0, .int .i64 0, .int .i64 0, .int .i64 0, .int .i64 0, .slice none 0 0, .int .i64 0, .int .i64 0, .int .i64 0, .slice none 0 0, .slice none 0 0] 41)).setCells w3.heap.size 0 [.string ⟨#[110]⟩, .slice a1 n1 m1, .slice a2 n2 m2, .bool false, .int .i64 4000, .int .i64 0, .int .i64 0, .int .i64 0, .int .i64 0, .slice a9 n9 m9, .int .i64 1500, .int .i64 0, .int .i64 0, .slice a13 n13 m13, .slice a14 n14 m14] := ⟨_, rfl⟩
  have HTH : Hid ((w3.alloc (.cells #[.string ⟨#[]⟩, .slice none 0 0, .slice none 0 0, .bool false, .int .i64 0, .int .i64 0, .int .i64 0, .int .i64 0, .int .i64 0, .slice none 0 0, .int .i64 0, .int .i64 0, .int .i64 0, .slice none 0 0, .slice none 0 0] 41)).there w3.heap.size 0 15) := (BoxL.new w3 41 [.string ⟨#[]⟩, .slice none 0 0, .slice none 0 0, .bool false, .int .i64 0, .int .i64 0, .int .i64 0, .int .i64 0, .int .i64 0, .slice none 0 0, .int .i64 0, .int .i64 0, .int .i64 0, .slice none 0 0, .slice none 0 0]).there
  have HBX : Hid (BoxL W5 w3.heap.size [.string ⟨#[110]⟩, .slice a1 n1 m1, .slice a2 n2 m2, .bool false, .int .i64 4000, .int .i64 0, .int .i64 0, .int .i64 0, .int .i64 0, .slice a9 n9 m9, .int .i64 1500, .int .i64 0, .int .i64 0, .slice a13 n13 m13, .slice a14 n14 m14]) := by rw [hW5]; exact box_set w3 41 [.string ⟨#[]⟩, .slice none 0 0, .slice none 0 0, .bool false, .int .i64 0, .int .i64 0, .int .i64 0, .int .i64 0, .int .i64 0, .slice none 0 0, .int .i64 0, .int .i64 0, .int .i64 0, .slice none 0 0, .slice none 0 0] [.string ⟨#[110]⟩, .slice a1 n1 m1, .slice a2 n2 m2, .bool false, .int .i64 4000, .int .i64 0, .int .i64 0, .int .i64 0, .int .i64 0, .slice a9 n9 m9, .int .i64 1500, .int .i64 0, .int .i64 0, .slice a13 n13 m13, .slice a14 n14 m14] rfl
  have HB5 : Hid (Below w3.heap.size w3 W5) := by rw [hW5]; exact below_setCells ((Below.refl _ _).alloc (Nat.le_refl _) _) (Nat.le_refl _)
  have HW5 : Hid (W5 = (w3.alloc (.cells #[.string ⟨#[]⟩, .slice none 0 0, .slice none 0 0, .bool false, .int .i64 0, .int .i64 0, .int .i64 0, .int .i64 0, .int .i64 0, .slice none 0 0, .int .i64 0, .int .i64 0, .int .i64 0, .slice none 0 0, .slice none 0 0] 41)).setCells w3.heap.size 0 (([.string ⟨#[110]⟩, .slice a1 n1 m1, .slice a2 n2 m2, .bool false, .int .i64 4000, .int .i64 0, .int .i64 0, .int .i64 0, .int .i64 0, .slice a9 n9 m9, .int .i64 1500, .int .i64 0, .int .i64 0, .slice a13 n13 m13, .slice a14 n14 m14] : List Value).toArray).toList) := hW5
  have hi : (Try.prog.info? 41).map (·.size) = some ([.string ⟨#[110]⟩, .slice a1 n1 m1, .slice a2 n2 m2, .bool false, .int .i64 4000, .int .i64 0, .int .i64 0, .int .i64 0, .int .i64 0, .slice a9 n9 m9, .int .i64 1500, .int .i64 0, .int .i64 0, .slice a13 n13 m13, .slice a14 n14 m14] : List Value).length := by kernel_rfl
  clear hW5
  go_wp2_with (first | (refine wpList_store_mid rfl 41 _ _ rfl w3.heap.size 0 (([.string ⟨#[110]⟩, .slice a1 n1 m1, .slice a2 n2 m2, .bool false, .int .i64 4000, .int .i64 0, .int .i64 0, .int .i64 0, .int .i64 0, .slice a9 n9 m9, .int .i64 1500, .int .i64 0, .int .i64 0, .slice a13 n13 m13, .slice a14 n14 m14] : List Value).toArray) rfl rfl HTH.out hi HO1.out ?_; refine wpl_at HW5.out ?_) | (refine wpList_load_mid rfl 41 _ rfl w3.heap.size 0 rfl [.string ⟨#[110]⟩, .slice a1 n1 m1, .slice a2 n2 m2, .bool false, .int .i64 4000, .int .i64 0, .int .i64 0, .int .i64 0, .int .i64 0, .slice a9 n9 m9, .int .i64 1500, .int .i64 0, .int .i64 0, .slice a13 n13 m13, .slice a14 n14 m14] _ HBX.out.range Try.underlying41 rfl hi ?_))
  clear HTH HW5 HO1
  have hFr := Free_calls [.string ⟨#[110]⟩, .slice a1 n1 m1, .slice a2 n2 m2, .bool false, .int .i64 4000, .int .i64 0, .int .i64 0, .int .i64 0, .int .i64 0, .slice a9 n9 m9, .int .i64 1500, .int .i64 0, .int .i64 0, .slice a13 n13 m13, .slice a14 n14 m14] _ (wNode, [wA, wB], (1500, 0, 0), [80], []) W5 (HI0.out W5 HB5.out)
  rw [wFree] at hFr
  refine hFr.mono ?_
  clear hFr
  rintro e w6 ⟨rfl, hb6⟩
  have HX6 : Hid (BoxL w6 w3.heap.size [.string ⟨#[110]⟩, .slice a1 n1 m1, .slice a2 n2 m2, .bool false, .int .i64 4000, .int .i64 0, .int .i64 0, .int .i64 0, .int .i64 0, .slice a9 n9 m9, .int .i64 1500, .int .i64 0, .int .i64 0, .slice a13 n13 m13, .slice a14 n14 m14]) := HBX.out.on hb6
  obtain ⟨c9, _⟩ := HX6.out.2 9 _ rfl
  have HB6 : Hid (Below w3.heap.size w3 w6) := on2 HB5.out hb6
  clear hb6 HBX HB5
  go_wp2_with fail
  have HB7 : Hid (Below w6.heap.size w6 (w6.alloc (.cells #[.string wA, .string wB] 9))) := (Below.refl _ _).alloc (Nat.le_refl _) _
  refine (SameTexts_calls a9 n9 m9 _ [wA, wB] (some ⟨w6.heap.size, 0, none⟩) 2 2 (fun _ => True) [wA, wB] _ (S9.out _ (on2 HB6.out HB7.out)) (strs_new (fun _ => True) w6 [wA, wB] trivial (by decide) (by decide))).mono ?_
  rintro e w8 ⟨he, t8, hw8⟩
  replace he : e = .returned (.bool true) := by rw [he]; simp
  subst he
  have hb8 : Below w6.heap.size w6 w8 := by rw [hw8]; exact below_drewN HB7.out _
  have HX8 : Hid (BoxL w8 w3.heap.size [.string ⟨#[110]⟩, .slice a1 n1 m1, .slice a2 n2 m2, .bool false, .int .i64 4000, .int .i64 0, .int .i64 0, .int .i64 0, .int .i64 0, .slice a9 n9 m9, .int .i64 1500, .int .i64 0, .int .i64 0, .slice a13 n13 m13, .slice a14 n14 m14]) := HX6.out.on hb8
  have HB8 : Hid (Below w3.heap.size w3 w8) := on2 HB6.out hb8
  clear hw8 hb8 HB7 HX6 HB6 c9
  go_wp2_with (refine wpList_load_want (by rfl) 41 _ rfl w3.heap.size 0 rfl [.string ⟨#[110]⟩, .slice a1 n1 m1, .slice a2 n2 m2, .bool false, .int .i64 4000, .int .i64 0, .int .i64 0, .int .i64 0, .int .i64 0, .slice a9 n9 m9, .int .i64 1500, .int .i64 0, .int .i64 0, .slice a13 n13 m13, .slice a14 n14 m14] _ HX8.out.range Try.underlying41 rfl hi ?_)
  have hb9 : Below w8.heap.size w8 (w8.alloc (.cells #[.int .i64 9, .int .i64 80] 3)) := (Below.refl _ _).alloc (Nat.le_refl _) _
  have hC := Clash_calls [.string ⟨#[110]⟩, .slice a1 n1 m1, .slice a2 n2 m2, .bool false, .int .i64 4000, .int .i64 0, .int .i64 0, .int .i64 0, .int .i64 0, .slice a9 n9 m9, .int .i64 1500, .int .i64 0, .int .i64 0, .slice a13 n13 m13, .slice a14 n14 m14] [.string ⟨#[]⟩, .int .i64 0, .slice none 0 0, .int .i64 0, .int .i64 0, .int .i64 0, .slice none 0 0, .slice none 0 0, .slice none 0 0, .slice (some ⟨w8.heap.size, 0, none⟩) 2 2, .slice none 0 0, .slice none 0 0, .slice none 0 0, .slice none 0 0, .string ⟨#[]⟩, .string ⟨#[]⟩] _ (fun _ => True) (wNode, [wA, wB], (1500, 0, 0), [80], []) (wPod ⟨#[]⟩ 0 [9, 80]) (w8.alloc (.cells #[.int .i64 9, .int .i64 80] 3)) (HI0.out _ (on2 HB8.out hb9)) (wPod_at ⟨#[]⟩ 0 [9, 80] (some ⟨w8.heap.size, 0, none⟩) 2 2 (by decide) (ints_new (fun _ => True) w8 [9, 80] trivial (by decide)))
  rw [wClash] at hC
  refine hC.mono ?_
  clear hC
  rintro e w10 ⟨rfl, hb10⟩
  have HB10 : Hid (Below w.heap.size w w10) := on2 (on2 (on2 HB3.out HB8.out) hb9) hb10
  clear hb9 hb10
  go_wp2_with fail
  go_ret
  exact ⟨rfl, HB10.out⟩
end Go.Proofs.Ytddeilhelkfpoaa
namespace Go.Proofs.Ytddeilhelkfpoaa
open Go.RowKit
set_option linter.unusedSimpArgs false
set_option maxRecDepth 100000

set_option maxHeartbeats 4000000 in
theorem pods_row (a : Option Addr) (n cap : Nat) (A : Where) (L : List PodD) (w : World) (hL : Hid (SlAt RPod 16 296 A w a n cap L)) : Calls Try.prog 7 #[.slice a n cap] w fun e w' => ∃ v, e = .returned v ∧ Row RPod 16 (Fresh w) w w' 37 v L := by
  have hlen := hL.out.len (by decide)
  have hn : Hid (L.length = n) := hL.out.1
  have hbb : Hid (n * 296 ≤ 140737488351232) := hL.out.2.2.2.1
  have HR0 : Hid (Row RPod 16 (Fresh w) w (w.alloc (.cells #[] 37)) 37 (.slice (some ⟨w.heap.size, 0, none⟩) 0 0) (L.take 0)) := Row.start _ w w _ (Below.refl _ _)
  go_enter Try.func7, Try.ntmps7
  go_wp2_with fail
  go_loopw [3, 4] (fun s i wr => ∃ k : Nat, k ≤ n ∧ i = .int .i64 k ∧ Hid (Row RPod 16 (Fresh w) w wr 37 s (L.take k))) (fun _ i _ => n - (intOf i).toNat)
  case atStart => exact ⟨0, Nat.zero_le _, rfl, HR0⟩
  case round =>
    obtain ⟨k, hk, rfl, hrow⟩ := hrel
    by_cases hlt : k < n
    · have hltz : (k : Int) < (n : Int) := by omega
      have hkl : Hid (k < L.length) := by rw [Hid, hn.out]; exact hlt
      have hbw : Below w.heap.size w wr := hrow.out.below
      obtain ⟨B, off, rfl, hB, _, cs, hr, hv⟩ := (hL.out.on RPod.firm hbw).get hlt
      have HV : Hid (wr.rangeAt B (off + k * 16) cs) := hv
      have hi : (Try.prog.info? 37).map (·.size) = some cs.length := by rw [RPod.firm.len hr]; exact sizePod
      have HT : Hid (L.take k ++ [L.getD k default] = L.take (k + 1)) := take_at hkl.out
      have HC := Pod_copy cs A (L.getD k default) wr hr
      have HLb : Hid (((L.take k).length + [L.getD k default].length) * 296 ≤ 140737488355328) := by
        have := bytes_le hbb.out hlt
        rw [Hid, List.length_take, hn.out, List.length_singleton, Nat.min_eq_left (by omega)]
        exact this
      clear hr hv
      generalize L.getD k default = x at HT HC HLb
      go_wp2_with (first | (refine wpList_load_mid rfl 37 _ rfl B (off + k * 16) rfl cs _ HV.out Try.underlying37 rfl hi ?_) | fail)
      refine HC.mono ?_
      rintro e w2 ⟨cs2, rfl, hr2, hb2⟩
      clear HC
      obtain ⟨v0, v1, v2, v3, v4, v5, v6, v7, v8, v9, v10, v11, v12, v13, v14, v15, rfl⟩ := RPod.lit hr2
      have hb3 : Below wr.heap.size wr (w2.alloc (.cells #[v0, v1, v2, v3, v4, v5, v6, v7, v8, v9, v10, v11, v12, v13, v14, v15] 37)) := hb2.alloc hb2.size _
      have HR3 : Hid (Row RPod 16 (Fresh w) w (w2.alloc (.cells #[v0, v1, v2, v3, v4, v5, v6, v7, v8, v9, v10, v11, v12, v13, v14, v15] 37)) 37 u3 (L.take k)) := hrow.out.on RPod.firm hb3
      have HE : RPod (fun b => Fresh w b ∧ Value.ownBlock u3 ≠ some b) (w2.alloc (.cells #[v0, v1, v2, v3, v4, v5, v6, v7, v8, v9, v10, v11, v12, v13, v14, v15] 37)) [v0, v1, v2, v3, v4, v5, v6, v7, v8, v9, v10, v11, v12, v13, v14, v15] x := RPod.firm.weak (RPod.firm.kept hr2 (Kept.alloc _ _ _)) (fun b _ hb => hrow.out.apart (u' := wr) (Nat.le_refl _) b hb)
      have H1 : Hid (∀ y ∈ [v0, v1, v2, v3, v4, v5, v6, v7, v8, v9, v10, v11, v12, v13, v14, v15], y.oneCell' = true) := RPod.firm.one HE
      have HCh : Hid (Chunks RPod 16 (fun b => Fresh w b ∧ Value.ownBlock u3 ≠ some b) (w2.alloc (.cells #[v0, v1, v2, v3, v4, v5, v6, v7, v8, v9, v10, v11, v12, v13, v14, v15] 37)) [v0, v1, v2, v3, v4, v5, v6, v7, v8, v9, v10, v11, v12, v13, v14, v15] [x]) := chunk_one RPod.firm HE
      have HX : Hid (∀ j y, [v0, v1, v2, v3, v4, v5, v6, v7, v8, v9, v10, v11, v12, v13, v14, v15][j]? = some y → (w2.alloc (.cells #[v0, v1, v2, v3, v4, v5, v6, v7, v8, v9, v10, v11, v12, v13, v14, v15] 37)).cell? ((⟨w2.heap.size, 0, none⟩ : Addr).add j) = some y) := one_cells w2 _ 37
      clear HE hb3 hr2 hrow HV
      go_wp2_with (at_builtin; go_must (refine row_append RPod.firm (A := Fresh w) (w0 := w) rfl _ _ 28 37 rfl _ 296 infoPod Try.underlying28 rfl (by decide) (by decide) u3 (L.take k) rfl HR3.out ⟨w2.heap.size, 0, none⟩ 1 1 _ [x] rfl rfl HCh.out HX.out H1.out HLb.out ?_); intro v4 w4 hrow4 hg4)
      rw [HT.out] at hrow4
      go_roundw
      case rel => exact ⟨k + 1, by omega, by go_num, hrow4⟩
      case measure => simp [intOf]; omega
    · have hk' : L.take k = L := List.take_of_length_le (by rw [hn.out]; omega)
      rw [hk'] at hrow
      go_wp2_with fail
      go_ret
      exact ⟨_, rfl, hrow.out⟩
end Go.Proofs.Ytddeilhelkfpoaa
namespace Go.Proofs.Ytddeilhelkfpoaa
open Go.ChangeShapes Go.WideShapes Go.ChangeAt Go.RowKit

/-- What a datum weighs is within reach. -/
def Light {H : Type} (d : DataW H) (t : TypeId) : Prop := ∀ n ∈ d.weights Try.prog t, n ≤ 140737488351232
theorem light_all {H : Type} {e : TypeId} : ∀ {ds : List (DataW H)} {d : DataW H}, d ∈ ds → (∀ n ∈ DataW.weightsAll Try.prog e ds, n ≤ 140737488351232) → Light d e
  | [], _, h, _ => by simp at h
  | x :: ds, d, h, hw => by
    rcases List.mem_cons.1 h with rfl | h
    · intro n hn; exact hw n (by simp [DataW.weightsAll, hn])
    · exact light_all h (fun n hn => hw n (by simp [DataW.weightsAll, hn]))
theorem light_slice {H : Type} {t e : TypeId} {elems spare : List (DataW H)} (hu : Try.prog.underlying t = some (.slice e)) (h : Light (.slice elems spare) t) : elems.length * Try.prog.bytesOf e ≤ 140737488351232 ∧ ∀ d ∈ elems, Light d e := by
  unfold Light at h
  simp only [DataW.weights, hu, List.mem_cons, List.mem_append] at h
  refine ⟨?_, fun d hd => light_all hd (fun n hn => h n (.inr (.inl hn)))⟩
  have := h _ (.inl rfl)
  rw [Nat.add_mul] at this
  omega
theorem light_struct {H : Type} {t : TypeId} {fs : Array Field} {parts : List (DataW H)} (hu : Try.prog.underlying t = some (.struct fs)) (h : Light (.agg parts) t) {j : Nat} {tj : TypeId} {d : DataW H} (ht : (fs.toList.map (·.type))[j]? = some tj) (hd : parts[j]? = some d) : Light d tj := by
  intro n hn
  refine h n ?_
  simp only [DataW.weights, hu]
  exact DataW.weights_mem_each ht hd n hn
theorem light_arg {H : Type} {ts : List TypeId} {ds : List (DataW H)} (h : (DataW.weightsEach Try.prog ts ds).all (· ≤ reachBytes) = true) {j : Nat} {t : TypeId} {d : DataW H} (ht : ts[j]? = some t) (hd : ds[j]? = some d) : Light d t := by
  intro n hn
  have := List.all_eq_true.1 h _ (DataW.weights_mem_each ht hd n hn)
  have hre : reachBytes = 140737488351232 := by decide
  rw [hre] at this
  simpa using this

section
variable {H : Type} {enc : TypeId × Value → H} {W : World} {base n : Nat} {sp : Nat → Bool} {held : Bool}

theorem open_str {v : Value} {x : DataW H × List MemPlace} (h : DataW.trod enc Try.prog W base sp held n 9 [v] = some x) (hl : Light x.1 9) : ∃ s : ByteArray, v = .string s ∧ s.size ≤ 140737488355328 := by
  obtain ⟨s, hs, rfl, _⟩ := DataW.trod_string Try.underlying9 h
  refine ⟨s, by simpa using hs, ?_⟩
  have := hl s.data.toList.length (by simp [DataW.weights])
  simp at this
  omega

theorem addr_lt {B off : Nat} {spot : Option _} {v : Value} (h : W.cell? ⟨B, off, spot⟩ = some v) : B < W.heap.size := by
  rcases Nat.lt_or_ge B W.heap.size with h2 | h2
  · exact h2
  · simp [World.cell?, Array.getElem?_eq_none h2] at h

theorem getD_range {α : Type} [Inhabited α] (f : Nat → α) (len i : Nat) (h : i < len) : ((List.range len).map f).getD i default = f i := by
  rw [getE _ _ (by simpa using h)]; simp

theorem open_row {α : Type} [Inhabited α] {en : α → List Value} {k bytes : Nat} {ok : α → Prop} {t e : TypeId} (hu : Try.prog.underlying t = some (.slice e)) (ck : Try.prog.cellsOf e = k) (bk : Try.prog.bytesOf e = bytes) (hk : ∀ x, (en x).length = k) (hk0 : 0 < k) (hb1 : 1 ≤ bytes)
    (hE : ∀ {m : Nat} {cs : List Value} {x : DataW H × List MemPlace}, DataW.trod enc Try.prog W base sp held m e cs = some x → Light x.1 e → ∃ y : α, cs = en y ∧ ok y)
    {v : Value} {x : DataW H × List MemPlace} (h : DataW.trod enc Try.prog W base sp held n t [v] = some x) (hl : Light x.1 t) :
    ∃ (a : Option Addr) (L : List α) (cap : Nat), v = .slice a L.length cap ∧ RowAt en k ok W a L ∧ L.length * bytes ≤ 140737488351232 ∧ (a = none → cap = 0) ∧ L.length ≤ cap := by
  rcases Go.Deep.open_slice hu h with ⟨hv, _⟩ | ⟨a, len, cap, m, nn, D, Pl, hv, _, hlc, _, hm, rfl, hel⟩
  · exact ⟨none, [], 0, by simpa using hv, RowAt.nil _ _, by simp, fun _ => rfl, by simp⟩
  · obtain rfl : v = .slice (some a) len cap := by simpa using hv
    obtain ⟨w1, w2⟩ := light_slice hu hl
    simp only [List.length_map, List.length_range, bk] at w1
    have hlb : len * 1 ≤ len * bytes := Nat.mul_le_mul_left _ hb1
    have hml : len ≤ m := by rw [hm]; split <;> omega
    rw [ck] at hel
    have each : ∀ i, i < len → ∃ y : α, (∀ j u, (en y)[j]? = some u → W.cell? ((a.add (i * k)).add j) = some u) ∧ ok y := fun i hi => by
      obtain ⟨cs', h1, h2⟩ := hel i (by omega)
      obtain ⟨y, rfl, ho⟩ := hE h2 (w2 _ (List.mem_map.2 ⟨i, List.mem_range.2 hi, rfl⟩))
      obtain ⟨_, _, hcell⟩ := World.cells?_some h1
      refine ⟨y, fun j u hj => ?_, ho⟩
      have hjk : j < k := by
        have := (List.getElem?_eq_some_iff.1 hj).1
        rwa [hk] at this
      rw [hcell j hjk, hj]
    obtain ⟨f, hf⟩ := Go.Deep.choose_lt each
    refine ⟨some a, (List.range len).map f, cap, by simp, ⟨by simp; omega, ?_, fun hn => ?_⟩, by simpa using w1, (fun h => by cases h), by simpa using hlc⟩
    · intro s hs
      obtain ⟨i, hi, rfl⟩ := List.mem_map.1 hs
      exact (hf i (List.mem_range.1 hi)).2
    · have hpos : 0 < len := by
        rcases Nat.eq_zero_or_pos len with h0 | h0
        · subst h0; exact absurd rfl hn
        · exact h0
      obtain ⟨B, off, spot⟩ := a
      have hex : ∃ u, (en (f 0))[0]? = some u := by
        cases e : en (f 0) with
        | nil => have := hk (f 0); rw [e] at this; simp at this; omega
        | cons u r => exact ⟨u, rfl⟩
      obtain ⟨u0, hu0⟩ := hex
      have hc0 := (hf 0 hpos).1 0 u0 hu0
      have hsp : spot = none := by
        have := World.cell?_spot hc0
        simpa [Addr.add] using this
      subst hsp
      rw [add_lit, add_lit] at hc0
      refine ⟨B, off, rfl, addr_lt hc0, fun i hi j u hj => ?_⟩
      have hi' : i < len := by simpa using hi
      rw [getD_range f len i hi'] at hj
      have := (hf i hi').1 j u hj
      rwa [add_lit, add_lit] at this
theorem trod_struct4 {t : TypeId} {f0 f1 f2 f3 : Field} {fuel : Nat} {cs : List Value} {x : DataW H × List MemPlace} (ht : Try.prog.underlying t = some (.struct #[f0, f1, f2, f3])) (h : DataW.trod enc Try.prog W base sp held fuel t cs = some x) :
    ∃ y0 y1 y2 y3 n, x = (.agg [y0.1, y1.1, y2.1, y3.1], y0.2 ++ (y1.2 ++ (y2.2 ++ y3.2))) ∧ cs.length = Try.prog.cellsOf t ∧ DataW.trod enc Try.prog W base sp held n f0.type ((cs.drop f0.offset).take (Try.prog.cellsOf f0.type)) = some y0 ∧
      DataW.trod enc Try.prog W base sp held n f1.type ((cs.drop f1.offset).take (Try.prog.cellsOf f1.type)) = some y1 ∧ DataW.trod enc Try.prog W base sp held n f2.type ((cs.drop f2.offset).take (Try.prog.cellsOf f2.type)) = some y2 ∧ DataW.trod enc Try.prog W base sp held n f3.type ((cs.drop f3.offset).take (Try.prog.cellsOf f3.type)) = some y3 := by
  obtain ⟨xs, n, _, rfl, hl, hlen, hf⟩ := DataW.trod_struct ht h
  match xs, hlen with
  | [y0, y1, y2, y3], _ => exact ⟨y0, y1, y2, y3, n, by simp, hl, by simpa using hf 0 f0 rfl, by simpa using hf 1 f1 rfl, by simpa using hf 2 f2 rfl, by simpa using hf 3 f3 rfl⟩
end
end Go.Proofs.Ytddeilhelkfpoaa
namespace Go.Proofs.Ytddeilhelkfpoaa
open Go.ChangeShapes Go.WideShapes Go.ChangeAt Go.RowKit

/-- What is read as of that type lies as said. -/
def Opens {α : Type} (R : Rep α) (t : TypeId) : Prop :=
  ∀ {H : Type} {enc : TypeId × Value → H} {W : World} {base n : Nat} {sp : Nat → Bool} {held : Bool} {cs : List Value} {x : DataW H × List MemPlace},
    DataW.trod enc Try.prog W base sp held n t cs = some x → Light x.1 t → ∃ y, R (fun _ => True) W cs y
theorem opens_str : Opens RStr 9 := by
  intro H enc W base n sp held cs x h hl
  obtain ⟨s, hs, rfl, _⟩ := DataW.trod_string Try.underlying9 h
  refine ⟨s, hs, ?_⟩
  have := hl s.data.toList.length (by simp [DataW.weights])
  simp at this
  omega
theorem opens_int : Opens RInt 3 := by
  intro H enc W base n sp held cs x h _
  obtain ⟨e, e1, _, _⟩ := DataW.trod_int Try.underlying3 h
  exact ⟨e, e1⟩
theorem opens_bool : Opens RBool 4 := by
  intro H enc W base n sp held cs x h _
  obtain ⟨b, b1, _⟩ := DataW.trod_bool Try.underlying4 h
  exact ⟨b, b1⟩
theorem opens_slice {α : Type} [Inhabited α] {R : Rep α} {k bytes : Nat} {t e : TypeId} (hR : Firm R k) (hu : Try.prog.underlying t = some (.slice e)) (ck : Try.prog.cellsOf e = k) (bk : Try.prog.bytesOf e = bytes) (hk0 : 0 < k) (hE : Opens R e) : Opens (RSl R k bytes) t := by
  intro H enc W base n sp held cs x h hl
  rcases Go.Deep.open_slice hu h with ⟨hv, _⟩ | ⟨a, len, cap, m, nn, D, Pl, hv, _, hlc, _, hm, rfl, hel⟩
  · exact ⟨[], none, 0, 0, hv, SlAt.nil _ _ _ _ (fun _ => rfl)⟩
  · obtain ⟨w1, w2⟩ := light_slice hu hl
    simp only [List.length_map, List.length_range, bk] at w1
    have hml : len ≤ m := by rw [hm]; split <;> omega
    rw [ck] at hel
    have each : ∀ i, i < len → ∃ y : α, ∃ cs, R (fun _ => True) W cs y ∧ ∀ j u, cs[j]? = some u → W.cell? ((a.add (i * k)).add j) = some u := fun i hi => by
      obtain ⟨cs', h1, h2⟩ := hel i (by omega)
      obtain ⟨y, hy⟩ := hE h2 (w2 _ (List.mem_map.2 ⟨i, List.mem_range.2 hi, rfl⟩))
      obtain ⟨_, _, hcell⟩ := World.cells?_some h1
      refine ⟨y, cs', hy, fun j u hj => ?_⟩
      have hjk : j < k := by
        have := (List.getElem?_eq_some_iff.1 hj).1
        rwa [hR.len hy] at this
      rw [hcell j hjk, hj]
    obtain ⟨f, hf⟩ := Go.Deep.choose_lt each
    refine ⟨(List.range len).map f, some a, len, cap, hv, by simp, hlc, (fun h => by cases h), w1, fun hpos => ?_⟩
    obtain ⟨B, off, spot⟩ := a
    obtain ⟨cs0, hr0, hc0⟩ := hf 0 hpos
    have hex : ∃ u, cs0[0]? = some u := by
      cases e : cs0 with
      | nil => have := hR.len hr0; rw [e] at this; simp at this; omega
      | cons u r => exact ⟨u, rfl⟩
    obtain ⟨u0, hu0⟩ := hex
    have hc0 := hc0 0 u0 hu0
    have hsp : spot = none := by
      have := World.cell?_spot hc0
      simpa [Addr.add] using this
    subst hsp
    rw [add_lit, add_lit] at hc0
    refine ⟨B, off, rfl, addr_lt hc0, trivial, fun i hi => ?_⟩
    obtain ⟨cs, hr, hc⟩ := hf i hi
    refine ⟨cs, by rw [getD_range f len i hi]; exact hr, fun j u hj => ?_⟩
    have := hc j u hj
    rwa [add_lit, add_lit] at this
/-- The same of a struct's fields from a place on. -/
def OpensFs {α : Type} (fs : List Field) (off total : Nat) (R : Rep α) : Prop :=
  ∀ {H : Type} {enc : TypeId × Value → H} {W : World} {base n : Nat} {sp : Nat → Bool} {held : Bool} {cs : List Value}, cs.length = total →
    (∀ (j : Nat) (f : Field), fs[j]? = some f → ∃ d, DataW.trod enc Try.prog W base sp held n f.type ((cs.drop f.offset).take (Try.prog.cellsOf f.type)) = some d ∧ Light d.1 f.type) → ∃ y, R (fun _ => True) W (cs.drop off) y
theorem opensFs_last {α : Type} {R : Rep α} {f : Field} {off total : Nat} (ho : f.offset = off) (ht : off + Try.prog.cellsOf f.type = total) (h : Opens R f.type) : OpensFs [f] off total R := by
  intro H enc W base n sp held cs hl hf
  obtain ⟨d, h1, h2⟩ := hf 0 f rfl
  rw [ho, List.take_of_length_le (by rw [List.length_drop]; omega)] at h1
  exact h h1 h2
theorem opensFs_cons {α β : Type} {R : Rep α} {S : Rep β} {f : Field} {fs : List Field} {off m total : Nat} (ho : f.offset = off) (hm : off + Try.prog.cellsOf f.type = m) (h : Opens R f.type) (hs : OpensFs fs m total S) : OpensFs (f :: fs) off total (RPair R S) := by
  intro H enc W base n sp held cs hl hf
  obtain ⟨d, h1, h2⟩ := hf 0 f rfl
  rw [ho] at h1
  obtain ⟨y, hy⟩ := h h1 h2
  obtain ⟨z, hz⟩ := hs (cs := cs) hl (fun j g hg => hf (j + 1) g (by simpa using hg))
  refine ⟨(y, z), (cs.drop off).take (Try.prog.cellsOf f.type), cs.drop m, ?_, hy, hz⟩
  rw [← hm, ← List.drop_drop]
  exact (List.take_append_drop _ _).symm
theorem opens_struct {α : Type} {R : Rep α} {t : TypeId} {fs : Array Field} {total : Nat} (hu : Try.prog.underlying t = some (.struct fs)) (hc : Try.prog.cellsOf t = total) (h : OpensFs fs.toList 0 total R) : Opens R t := by
  intro H enc W base n sp held cs x hx hl
  obtain ⟨xs, m, _, rfl, hlen, hxs, hf⟩ := DataW.trod_struct hu hx
  have := h (enc := enc) (W := W) (base := base) (n := m) (sp := sp) (held := held) (cs := cs) (by rw [hlen, hc]) (fun j f hj => by
    have hj' : fs[j]? = some f := by simpa using hj
    have h1 := hf j f hj'
    have hlt : j < xs.length := by
      have := (Array.getElem?_eq_some_iff.1 hj').1
      omega
    have h2 : xs[j]? = some xs[j] := List.getElem?_eq_getElem hlt
    rw [h2] at h1
    refine ⟨xs[j], h1, light_struct hu hl (j := j) (by simp [hj']) (by simp [h2])⟩)
  simpa using this
theorem arg_agg {P : Program} {t : TypeId} {fs : Array Field} (hu : P.underlying t = some (.struct fs)) {H : Type} {enc : TypeId × Value → H} {W : World} {base b0 : Nat} {r : Reach} {sp : Nat → Bool} {held : Bool} {v : Value} {d : DataW H} {p : List MemPlace}
    (hv : Value.okWide P W r b0 t v) (hd : DataW.Trod enc P W base sp held t v d p) : ∃ (cs : Array Value) (fuel : Nat), v = .agg cs ∧ DataW.trod enc P W base sp held fuel t cs.toList = some (d, p) := by
  obtain ⟨cs, rfl, _⟩ := okWide_struct hu hv
  obtain ⟨fuel, hf⟩ := hd
  exact ⟨cs, fuel, rfl, hf⟩
set_option maxRecDepth 100000 in
/-- A struct that is handed in. -/
theorem opens_arg {α : Type} {R : Rep α} {t : TypeId} {fs : Array Field} (hu : Try.prog.underlying t = some (.struct fs)) (h : Opens R t) {H : Type} {enc : TypeId × Value → H} {W : World} {base b0 : Nat} {r : Reach} {sp : Nat → Bool} {held : Bool} {v : Value} {d : DataW H} {p : List MemPlace}
    (hv : Value.okWide Try.prog W r b0 t v) (hd : DataW.Trod enc Try.prog W base sp held t v d p) (hl : Light d t) : ∃ cs y, v = .agg cs ∧ R (fun _ => True) W cs.toList y := by
  obtain ⟨cs, fuel, e, hf⟩ := arg_agg hu hv hd
  obtain ⟨y, hy⟩ := h hf hl
  exact ⟨cs, y, e, hy⟩
end Go.Proofs.Ytddeilhelkfpoaa
