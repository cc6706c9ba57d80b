/- The chapter's example works. No condition. Arguments as they come in: texts and slices of structs, read off memory. No condition beyond the row's own reach. Arguments as they come in, whatever their type: read off memory, they lie as said. No condition beyond the row's own reach. Arguments of the program's struct types, as they come in. No condition beyond the row's own reach. An info that is handed in lies as is said. No condition. Arguments of layer 16's laws as they come in. No condition beyond the row's own reach. base.Texts and base.Ints give rows of their own. Condition: the slice lies as is said of it. -/
import Derived.Test.YteihniiacfghoabQ13
import Derived.Test.YteihniiacfghoabQ01
import Derived.Deep.Slices
import Derived.Deep.Strs
import Derived.SizedLaws
import Derived.Test.YteihniiacfghoabQ03
import Derived.Test.YteihniiacfghoabQ04
import Derived.Test.YteihniiacfghoabQ05
namespace Go.Proofs.Yteihniiacfghoab
open Go.RowKit Go.Maps
set_option linter.unusedSimpArgs false
set_option maxRecDepth 100000

theorem load_wS {ops : Array Oper} {rest : List Oper} {op : Oper} {a : Act} {w : World} {Q : Exit → Act → World → Prop} (hgd : Region.wanted op (yielded ops a.tmps) = true) (ty : TypeId) (x : Operand) (ho : op.op = .load ty x)
    (b o : Nat) (hx : a.eval x = .pointer (some ⟨b, o, none⟩)) (cs : List Value) (d : TypeDesc) (hc : w.rangeAt b o cs)
    (hu : Try.prog.underlying ty = some d) (hd : d.isRow = true) (hi : (Try.prog.info? ty).map (·.size) = some cs.length)
    (h : wpList Try.prog ops Q rest (a.put op.dst (.agg cs.toArray)) w) : wpList Try.prog ops Q (op :: rest) a w :=
  BigFrame.wpList_want hgd (fun _ hK => wp_load_mid ty x ho b o hx cs d hc hu hd hi (hK _ _ h))
abbrev wPodS : PodD := (⟨#[]⟩, 0, [], (1000, 1000, 0), [], [], [], [], [], [], [], [], ⟨#[]⟩, ⟨#[]⟩)
abbrev wInfoS : InfoD := ((⟨#[]⟩, [], [], false, (4000, 4000, 0), 0, 0), [], (1000, 0, 0), [], [])
theorem wSa : leastP wPodS wInfoS = 62 := by decide +kernel
theorem wSb : evenP wPodS wInfoS = 75 := by decide +kernel
theorem wSc : normP [1, 4, 2] true = [75, 0, 50] := by decide +kernel
theorem wSd : pickP [3, 7, 7] [true, true, true] 1 = 2 := by decide +kernel
theorem wPodS_at (A : Where) (u : World) : RPod A u [.string ⟨#[]⟩, .int .i64 0, .slice none 0 0, .int .i64 1000, .int .i64 1000, .int .i64 0, .slice none 0 0, .slice none 0 0, .slice none 0 0, .slice none 0 0, .slice none 0 0, .slice none 0 0, .slice none 0 0, .slice none 0 0, .string ⟨#[]⟩, .string ⟨#[]⟩] wPodS :=
  RPod.mk (x := wPodS) (h2 := (none, 0, 0)) (h6 := (none, 0, 0)) (h7 := (none, 0, 0)) (h8 := (none, 0, 0)) (h9 := (none, 0, 0)) (h10 := (none, 0, 0)) (h11 := (none, 0, 0)) (h12 := (none, 0, 0)) (h13 := (none, 0, 0)) (by decide) (SlAt.nil _ _ _ _ (fun _ => rfl)) (SlAt.nil _ _ _ _ (fun _ => rfl)) (SlAt.nil _ _ _ _ (fun _ => rfl)) (SlAt.nil _ _ _ _ (fun _ => rfl)) (SlAt.nil _ _ _ _ (fun _ => rfl)) (SlAt.nil _ _ _ _ (fun _ => rfl)) (SlAt.nil _ _ _ _ (fun _ => rfl)) (SlAt.nil _ _ _ _ (fun _ => rfl)) (SlAt.nil _ _ _ _ (fun _ => rfl)) (by decide) (by decide)
theorem wInfoS_at (A : Where) (u : World) : RInfo A u [.string ⟨#[]⟩, .slice none 0 0, .slice none 0 0, .bool false, .int .i64 4000, .int .i64 4000, .int .i64 0, .int .i64 0, .int .i64 0, .slice none 0 0, .int .i64 1000, .int .i64 0, .int .i64 0, .slice none 0 0, .slice none 0 0] wInfoS :=
  RInfo.mk (x := wInfoS) (h1 := (none, 0, 0)) (h2 := (none, 0, 0)) (h9 := (none, 0, 0)) (h13 := (none, 0, 0)) (h14 := (none, 0, 0)) (show (0 : Nat) ≤ 140737488355328 by decide) (SlAt.nil _ _ _ _ (fun _ => rfl)) (SlAt.nil _ _ _ _ (fun _ => rfl)) (SlAt.nil _ _ _ _ (fun _ => rfl)) (SlAt.nil _ _ _ _ (fun _ => rfl)) (SlAt.nil _ _ _ _ (fun _ => rfl))
theorem sl_boxI (u : World) (B cap : Nat) (L : List Int) (h : BoxL u B (L.map (Value.int .i64))) (hc : L.length ≤ cap) (hb : L.length * 8 ≤ 140737488351232) : SlAt RInt 1 8 (fun _ => True) u (some ⟨B, 0, none⟩) L.length cap L :=
  ⟨rfl, hc, (fun e => by cases e), hb, fun _ => ⟨B, 0, rfl, h.1, trivial, fun i hi => ⟨[.int .i64 (L.getD i default)], rfl, fun j v hj => by
    have hj0 : j = 0 := by have := (List.getElem?_eq_some_iff.1 hj).1; simp at this; exact this
    subst hj0
    have hv : v = .int .i64 (L.getD i default) := by simpa using hj.symm
    rw [hv, Nat.zero_add, Nat.mul_one, Nat.add_zero]
    exact (h.2 i _ (by rw [List.getElem?_map, List.getD_eq_getElem?_getD, List.getElem?_eq_getElem hi]; rfl)).1⟩⟩⟩
theorem sl_boxB (u : World) (B cap : Nat) (L : List Bool) (h : BoxL u B (L.map Value.bool)) (hc : L.length ≤ cap) (hb : L.length * 1 ≤ 140737488351232) : SlAt RBool 1 1 (fun _ => True) u (some ⟨B, 0, none⟩) L.length cap L :=
  ⟨rfl, hc, (fun e => by cases e), hb, fun _ => ⟨B, 0, rfl, h.1, trivial, fun i hi => ⟨[.bool (L.getD i default)], rfl, fun j v hj => by
    have hj0 : j = 0 := by have := (List.getElem?_eq_some_iff.1 hj).1; simp at this; exact this
    subst hj0
    have hv : v = .bool (L.getD i default) := by simpa using hj.symm
    rw [hv, Nat.zero_add, Nat.mul_one, Nat.add_zero]
    exact (h.2 i _ (by rw [List.getElem?_map, List.getD_eq_getElem?_getD, List.getElem?_eq_getElem hi]; rfl)).1⟩⟩⟩
set_option maxHeartbeats 4000000 in
theorem works16_calls (w : World) : Calls Try.prog 4 #[] w fun e w' => e = .returned (.bool true) ∧ Below w.heap.size w w' := by
  obtain ⟨W, hW⟩ : ∃ W, W = (w.alloc (.cells #[.string ⟨#[]⟩, .slice none 0 0, .slice none 0 0, .bool false, .int .i64 4000, .int .i64 4000, .int .i64 0, .int .i64 0, .int .i64 0, .slice none 0 0, .int .i64 1000, .int .i64 0, .int .i64 0, .slice none 0 0, .slice none 0 0] 49)).alloc (.cells #[.string ⟨#[]⟩, .int .i64 0, .slice none 0 0, .int .i64 1000, .int .i64 1000, .int .i64 0, .slice none 0 0, .slice none 0 0, .slice none 0 0, .slice none 0 0, .slice none 0 0, .slice none 0 0, .slice none 0 0, .slice none 0 0, .string ⟨#[]⟩, .string ⟨#[]⟩] 33) := ⟨_, rfl⟩
  have hw1 : Below w.heap.size w (w.alloc (.cells #[.string ⟨#[]⟩, .slice none 0 0, .slice none 0 0, .bool false, .int .i64 4000, .int .i64 4000, .int .i64 0, .int .i64 0, .int .i64 0, .slice none 0 0, .int .i64 1000, .int .i64 0, .int .i64 0, .slice none 0 0, .slice none 0 0] 49)) := (Below.refl _ _).alloc (Nat.le_refl _) _
  have hbW : Below w.heap.size w W := by rw [hW]; exact hw1.alloc hw1.size _
  have hXI : BoxL W w.heap.size [.string ⟨#[]⟩, .slice none 0 0, .slice none 0 0, .bool false, .int .i64 4000, .int .i64 4000, .int .i64 0, .int .i64 0, .int .i64 0, .slice none 0 0, .int .i64 1000, .int .i64 0, .int .i64 0, .slice none 0 0, .slice none 0 0] := by rw [hW]; exact (BoxL.new w 49 _).on ((Below.refl _ _).alloc (Nat.le_refl _) _)
  have hXP : BoxL W (w.heap.size + 1) [.string ⟨#[]⟩, .int .i64 0, .slice none 0 0, .int .i64 1000, .int .i64 1000, .int .i64 0, .slice none 0 0, .slice none 0 0, .slice none 0 0, .slice none 0 0, .slice none 0 0, .slice none 0 0, .slice none 0 0, .slice none 0 0, .string ⟨#[]⟩, .string ⟨#[]⟩] := by have h1 := BoxL.new (w.alloc (.cells #[.string ⟨#[]⟩, .slice none 0 0, .slice none 0 0, .bool false, .int .i64 4000, .int .i64 4000, .int .i64 0, .int .i64 0, .int .i64 0, .slice none 0 0, .int .i64 1000, .int .i64 0, .int .i64 0, .slice none 0 0, .slice none 0 0] 49)) 33 [.string ⟨#[]⟩, .int .i64 0, .slice none 0 0, .int .i64 1000, .int .i64 1000, .int .i64 0, .slice none 0 0, .slice none 0 0, .slice none 0 0, .slice none 0 0, .slice none 0 0, .slice none 0 0, .slice none 0 0, .slice none 0 0, .string ⟨#[]⟩, .string ⟨#[]⟩]; rw [hW]; simpa using h1
  obtain ⟨ps, hps⟩ : ∃ ps : List Value, ps = [.string ⟨#[]⟩, .int .i64 0, .slice none 0 0, .int .i64 1000, .int .i64 1000, .int .i64 0, .slice none 0 0, .slice none 0 0, .slice none 0 0, .slice none 0 0, .slice none 0 0, .slice none 0 0, .slice none 0 0, .slice none 0 0, .string ⟨#[]⟩, .string ⟨#[]⟩] := ⟨_, rfl⟩
  obtain ⟨is, his⟩ : ∃ is : List Value, is = [.string ⟨#[]⟩, .slice none 0 0, .slice none 0 0, .bool false, .int .i64 4000, .int .i64 4000, .int .i64 0, .int .i64 0, .int .i64 0, .slice none 0 0, .int .i64 1000, .int .i64 0, .int .i64 0, .slice none 0 0, .slice none 0 0] := ⟨_, rfl⟩
  have HP : Hid (∀ u, RPod (fun _ => True) u ps wPodS) := fun u => by rw [hps]; exact wPodS_at _ u
  have HI : Hid (∀ u, RInfo (fun _ => True) u is wInfoS) := fun u => by rw [his]; exact wInfoS_at _ u
  have hiP : (Try.prog.info? 33).map (·.size) = some ps.length := by rw [hps]; exact sizePodS
  have hiI : (Try.prog.info? 49).map (·.size) = some is.length := by rw [his]; exact sizeInfoS
  rw [← his] at hXI
  rw [← hps] at hXP
  have HX : Hid (∀ u, Below W.heap.size W u → u.rangeAt w.heap.size 0 is ∧ u.rangeAt (w.heap.size + 1) 0 ps) := fun u hu => ⟨(hXI.on hu).range, (hXP.on hu).range⟩
  obtain ⟨J, hJ⟩ : ∃ J, J = w.heap.size := ⟨_, rfl⟩
  obtain ⟨P, hP⟩ : ∃ P, P = w.heap.size + 1 := ⟨_, rfl⟩
  rw [← hP, ← hJ] at HX
  have HJP : Hid (w.heap.size = J ∧ w.heap.size + 1 = P) := ⟨hJ.symm, hP.symm⟩
  have HW : Hid ((w.alloc (.cells #[.string ⟨#[]⟩, .slice none 0 0, .slice none 0 0, .bool false, .int .i64 4000, .int .i64 4000, .int .i64 0, .int .i64 0, .int .i64 0, .slice none 0 0, .int .i64 1000, .int .i64 0, .int .i64 0, .slice none 0 0, .slice none 0 0] 49)).alloc (.cells #[.string ⟨#[]⟩, .int .i64 0, .slice none 0 0, .int .i64 1000, .int .i64 1000, .int .i64 0, .slice none 0 0, .slice none 0 0, .slice none 0 0, .slice none 0 0, .slice none 0 0, .slice none 0 0, .slice none 0 0, .slice none 0 0, .string ⟨#[]⟩, .string ⟨#[]⟩] 33) = W) := hW.symm
  have HBW : Hid (Below w.heap.size w W) := hbW
  have HL : Hid (∀ u, Calls Try.prog 11 #[.agg ps.toArray, .agg is.toArray] u fun e w' => e = .returned (.int .i64 62) ∧ Below u.heap.size u w') := fun u => by have h := Least_calls ps is (fun _ => True) (fun _ => True) wPodS wInfoS u (HP.out u) (HI.out u); rw [wSa] at h; exact h
  have HE : Hid (∀ u, Calls Try.prog 12 #[.agg ps.toArray, .agg is.toArray] u fun e w' => e = .returned (.int .i64 75) ∧ Below u.heap.size u w') := fun u => by have h := Even_calls ps is (fun _ => True) (fun _ => True) wPodS wInfoS u (HP.out u) (HI.out u); rw [wSb] at h; exact h
  clear hw1 hbW hXI hXP hps his hJ hP hW HP HI
  go_enter Try.func4, Try.ntmps4
  go_upto_region 3 with fail
  rw [HW.out, HJP.out.2, HJP.out.1]
  clear HW HJP
  --M1
  have hr1 := HX.out W (Below.refl _ _)
  go_wp2_with (first | (refine load_wS (by rfl) 33 _ rfl P 0 rfl ps _ hr1.2 Try.underlying33 rfl hiP ?_) | (refine load_wS (by rfl) 49 _ rfl J 0 rfl is _ hr1.1 Try.underlying49 rfl hiI ?_) | fail)
  refine (HL.out W).mono ?_
  rintro e w5 ⟨rfl, b5⟩
  have hr2 := HX.out w5 b5
  have HB5 : Hid (Below W.heap.size W w5) := b5
  clear hr1 b5
  --M2
  go_wp2_with (first | (refine load_wS (by rfl) 33 _ rfl P 0 rfl ps _ hr2.2 Try.underlying33 rfl hiP ?_) | (refine load_wS (by rfl) 49 _ rfl J 0 rfl is _ hr2.1 Try.underlying49 rfl hiI ?_) | fail)
  refine (HE.out w5).mono ?_
  rintro e w6 ⟨rfl, b6⟩
  have HB6 : Hid (Below w.heap.size w w6) := on2 HBW.out (on2 HB5.out b6)
  obtain ⟨W7, hW7⟩ : ∃ Z, Z = w6.alloc (.cells #[.int .i64 1, .int .i64 4, .int .i64 2] 3) := ⟨_, rfl⟩
  have b7 : Below w6.heap.size w6 W7 := by rw [hW7]; exact (Below.refl _ _).alloc (Nat.le_refl _) _
  have q7 : BoxL W7 w6.heap.size [.int .i64 1, .int .i64 4, .int .i64 2] := by rw [hW7]; exact BoxL.new w6 3 _
  have hA := Normal_calls (some ⟨w6.heap.size, 0, none⟩) 3 3 (fun _ => True) [1, 4, 2] true W7 (sl_boxI W7 w6.heap.size 3 [1, 4, 2] q7 (by decide) (by decide))
  rw [wSc, hW7] at hA
  have HB7 : Hid (Below w.heap.size w W7) := on2 HB6.out b7
  rw [hW7] at HB7
  clear hr2 HB5 b6 b7 q7 hW7 HL HE HX HB6
  --M3
  go_wp2_with fail
  refine hA.mono ?_
  rintro e w8 ⟨v8, rfl, hr8⟩
  obtain ⟨la, lc, rfl, ls⟩ := (hr8.wAG RInt.firm (A' := fun _ => True) (fun _ h => h.elim)).slF (bytes := 8) RInt.firm (by decide)
  have b8 := hr8.below
  obtain ⟨W9, hW9⟩ : ∃ Z, Z = w8.alloc (.cells #[.int .i64 75, .int .i64 0, .int .i64 50] 3) := ⟨_, rfl⟩
  have b9 : Below w8.heap.size w8 W9 := by rw [hW9]; exact (Below.refl _ _).alloc (Nat.le_refl _) _
  have q9 : BoxL W9 w8.heap.size [.int .i64 75, .int .i64 0, .int .i64 50] := by rw [hW9]; exact BoxL.new w8 3 _
  have hS := SameInts_calls la 3 lc (fun _ => True) [75, 0, 50] (some ⟨w8.heap.size, 0, none⟩) 3 3 (fun _ => True) [75, 0, 50] W9 ((ls.on RInt.firm b9).weak RInt.firm (fun _ _ _ => trivial)) (sl_boxI W9 w8.heap.size 3 [75, 0, 50] q9 (by decide) (by decide))
  have HB9 : Hid (Below w.heap.size w W9) := on2 HB7.out (on2 b8 b9)
  rw [hW9] at HB9 hS
  rw [show decide (([75, 0, 50] : List Int) = [75, 0, 50]) = true by decide] at hS
  clear hA hr8 ls b8 b9 q9 hW9 HB7
  --M4
  go_wp2_with fail
  refine hS.mono ?_
  rintro e w10 ⟨rfl, q, hq⟩
  have HB10 : Hid (Below w.heap.size w w10) := by rw [Hid, hq]; exact below_drewN HB9.out q
  clear hS hq HB9
  obtain ⟨W11, hW11⟩ : ∃ Z, Z = w10.alloc (.cells #[.int .i64 3, .int .i64 7, .int .i64 7] 3) := ⟨_, rfl⟩
  have b11 : Below w10.heap.size w10 W11 := by rw [hW11]; exact (Below.refl _ _).alloc (Nat.le_refl _) _
  have q11 : BoxL W11 w10.heap.size [.int .i64 3, .int .i64 7, .int .i64 7] := by rw [hW11]; exact BoxL.new w10 3 _
  obtain ⟨W12, hW12⟩ : ∃ Z, Z = W11.alloc (.cells #[.bool true, .bool true, .bool true] 4) := ⟨_, rfl⟩
  have b12 : Below W11.heap.size W11 W12 := by rw [hW12]; exact (Below.refl _ _).alloc (Nat.le_refl _) _
  have q12 : BoxL W12 W11.heap.size [.bool true, .bool true, .bool true] := by rw [hW12]; exact BoxL.new W11 4 _
  have hz : W11.heap.size = w10.heap.size + 1 := by rw [hW11]; simp
  have hA := Pick_calls (some ⟨w10.heap.size, 0, none⟩) 3 3 (fun _ => True) [3, 7, 7] (some ⟨W11.heap.size, 0, none⟩) 3 3 (fun _ => True) [true, true, true] 1 W12 (sl_boxI W12 w10.heap.size 3 [3, 7, 7] (q11.on b12) (by decide) (by decide)) (sl_boxB W12 W11.heap.size 3 [true, true, true] q12 (by decide) (by decide))
  have HB12 : Hid (Below w.heap.size w W12) := on2 HB10.out (on2 b11 b12)
  rw [wSd, hz, hW12, hW11] at hA
  rw [hW12, hW11] at HB12
  clear b11 q11 b12 q12 hz hW11 hW12 HB10
  --M5
  go_wp2_with fail
  --M6
  refine hA.mono ?_
  rintro e w13 ⟨rfl, b13⟩
  have HB13 : Hid (Below w.heap.size w w13) := on2 HB12.out b13
  clear hA b13 HB12
  go_wp2_with fail
  go_ret
  exact ⟨rfl, HB13.out⟩
end Go.Proofs.Yteihniiacfghoab
namespace Go.Proofs.Yteihniiacfghoab
open Go.ChangeShapes Go.WideShapes Go.ChangeAt Go.RowKit

/-- What a datum weighs is within reach. -/
def Light {H : Type} (d : DataW H) (t : TypeId) : Prop := ∀ n ∈ d.weights Try.prog t, n ≤ 140737488351232
theorem light_all {H : Type} {e : TypeId} : ∀ {ds : List (DataW H)} {d : DataW H}, d ∈ ds → (∀ n ∈ DataW.weightsAll Try.prog e ds, n ≤ 140737488351232) → Light d e
  | [], _, h, _ => by simp at h
  | x :: ds, d, h, hw => by
    rcases List.mem_cons.1 h with rfl | h
    · intro n hn; exact hw n (by simp [DataW.weightsAll, hn])
    · exact light_all h (fun n hn => hw n (by simp [DataW.weightsAll, hn]))
theorem light_slice {H : Type} {t e : TypeId} {elems spare : List (DataW H)} (hu : Try.prog.underlying t = some (.slice e)) (h : Light (.slice elems spare) t) : elems.length * Try.prog.bytesOf e ≤ 140737488351232 ∧ ∀ d ∈ elems, Light d e := by
  unfold Light at h
  simp only [DataW.weights, hu, List.mem_cons, List.mem_append] at h
  refine ⟨?_, fun d hd => light_all hd (fun n hn => h n (.inr (.inl hn)))⟩
  have := h _ (.inl rfl)
  rw [Nat.add_mul] at this
  omega
theorem light_struct {H : Type} {t : TypeId} {fs : Array Field} {parts : List (DataW H)} (hu : Try.prog.underlying t = some (.struct fs)) (h : Light (.agg parts) t) {j : Nat} {tj : TypeId} {d : DataW H} (ht : (fs.toList.map (·.type))[j]? = some tj) (hd : parts[j]? = some d) : Light d tj := by
  intro n hn
  refine h n ?_
  simp only [DataW.weights, hu]
  exact DataW.weights_mem_each ht hd n hn
theorem light_arg {H : Type} {ts : List TypeId} {ds : List (DataW H)} (h : (DataW.weightsEach Try.prog ts ds).all (· ≤ reachBytes) = true) {j : Nat} {t : TypeId} {d : DataW H} (ht : ts[j]? = some t) (hd : ds[j]? = some d) : Light d t := by
  intro n hn
  have := List.all_eq_true.1 h _ (DataW.weights_mem_each ht hd n hn)
  have hre : reachBytes = 140737488351232 := by decide
  rw [hre] at this
  simpa using this

section
variable {H : Type} {enc : TypeId × Value → H} {W : World} {base n : Nat} {sp : Nat → Bool} {held : Bool}

theorem open_str {v : Value} {x : DataW H × List MemPlace} (h : DataW.trod enc Try.prog W base sp held n 9 [v] = some x) (hl : Light x.1 9) : ∃ s : ByteArray, v = .string s ∧ s.size ≤ 140737488355328 := by
  obtain ⟨s, hs, rfl, _⟩ := DataW.trod_string Try.underlying9 h
  refine ⟨s, by simpa using hs, ?_⟩
  have := hl s.data.toList.length (by simp [DataW.weights])
  simp at this
  omega

theorem addr_lt {B off : Nat} {spot : Option _} {v : Value} (h : W.cell? ⟨B, off, spot⟩ = some v) : B < W.heap.size := by
  rcases Nat.lt_or_ge B W.heap.size with h2 | h2
  · exact h2
  · simp [World.cell?, Array.getElem?_eq_none h2] at h

theorem getD_range {α : Type} [Inhabited α] (f : Nat → α) (len i : Nat) (h : i < len) : ((List.range len).map f).getD i default = f i := by
  rw [getE _ _ (by simpa using h)]; simp

theorem open_row {α : Type} [Inhabited α] {en : α → List Value} {k bytes : Nat} {ok : α → Prop} {t e : TypeId} (hu : Try.prog.underlying t = some (.slice e)) (ck : Try.prog.cellsOf e = k) (bk : Try.prog.bytesOf e = bytes) (hk : ∀ x, (en x).length = k) (hk0 : 0 < k) (hb1 : 1 ≤ bytes)
    (hE : ∀ {m : Nat} {cs : List Value} {x : DataW H × List MemPlace}, DataW.trod enc Try.prog W base sp held m e cs = some x → Light x.1 e → ∃ y : α, cs = en y ∧ ok y)
    {v : Value} {x : DataW H × List MemPlace} (h : DataW.trod enc Try.prog W base sp held n t [v] = some x) (hl : Light x.1 t) :
    ∃ (a : Option Addr) (L : List α) (cap : Nat), v = .slice a L.length cap ∧ RowAt en k ok W a L ∧ L.length * bytes ≤ 140737488351232 ∧ (a = none → cap = 0) ∧ L.length ≤ cap := by
  rcases Go.Deep.open_slice hu h with ⟨hv, _⟩ | ⟨a, len, cap, m, nn, D, Pl, hv, _, hlc, _, hm, rfl, hel⟩
  · exact ⟨none, [], 0, by simpa using hv, RowAt.nil _ _, by simp, fun _ => rfl, by simp⟩
  · obtain rfl : v = .slice (some a) len cap := by simpa using hv
    obtain ⟨w1, w2⟩ := light_slice hu hl
    simp only [List.length_map, List.length_range, bk] at w1
    have hlb : len * 1 ≤ len * bytes := Nat.mul_le_mul_left _ hb1
    have hml : len ≤ m := by rw [hm]; split <;> omega
    rw [ck] at hel
    have each : ∀ i, i < len → ∃ y : α, (∀ j u, (en y)[j]? = some u → W.cell? ((a.add (i * k)).add j) = some u) ∧ ok y := fun i hi => by
      obtain ⟨cs', h1, h2⟩ := hel i (by omega)
      obtain ⟨y, rfl, ho⟩ := hE h2 (w2 _ (List.mem_map.2 ⟨i, List.mem_range.2 hi, rfl⟩))
      obtain ⟨_, _, hcell⟩ := World.cells?_some h1
      refine ⟨y, fun j u hj => ?_, ho⟩
      have hjk : j < k := by
        have := (List.getElem?_eq_some_iff.1 hj).1
        rwa [hk] at this
      rw [hcell j hjk, hj]
    obtain ⟨f, hf⟩ := Go.Deep.choose_lt each
    refine ⟨some a, (List.range len).map f, cap, by simp, ⟨by simp; omega, ?_, fun hn => ?_⟩, by simpa using w1, (fun h => by cases h), by simpa using hlc⟩
    · intro s hs
      obtain ⟨i, hi, rfl⟩ := List.mem_map.1 hs
      exact (hf i (List.mem_range.1 hi)).2
    · have hpos : 0 < len := by
        rcases Nat.eq_zero_or_pos len with h0 | h0
        · subst h0; exact absurd rfl hn
        · exact h0
      obtain ⟨B, off, spot⟩ := a
      have hex : ∃ u, (en (f 0))[0]? = some u := by
        cases e : en (f 0) with
        | nil => have := hk (f 0); rw [e] at this; simp at this; omega
        | cons u r => exact ⟨u, rfl⟩
      obtain ⟨u0, hu0⟩ := hex
      have hc0 := (hf 0 hpos).1 0 u0 hu0
      have hsp : spot = none := by
        have := World.cell?_spot hc0
        simpa [Addr.add] using this
      subst hsp
      rw [add_lit, add_lit] at hc0
      refine ⟨B, off, rfl, addr_lt hc0, fun i hi j u hj => ?_⟩
      have hi' : i < len := by simpa using hi
      rw [getD_range f len i hi'] at hj
      have := (hf i hi').1 j u hj
      rwa [add_lit, add_lit] at this
theorem trod_struct4 {t : TypeId} {f0 f1 f2 f3 : Field} {fuel : Nat} {cs : List Value} {x : DataW H × List MemPlace} (ht : Try.prog.underlying t = some (.struct #[f0, f1, f2, f3])) (h : DataW.trod enc Try.prog W base sp held fuel t cs = some x) :
    ∃ y0 y1 y2 y3 n, x = (.agg [y0.1, y1.1, y2.1, y3.1], y0.2 ++ (y1.2 ++ (y2.2 ++ y3.2))) ∧ cs.length = Try.prog.cellsOf t ∧ DataW.trod enc Try.prog W base sp held n f0.type ((cs.drop f0.offset).take (Try.prog.cellsOf f0.type)) = some y0 ∧
      DataW.trod enc Try.prog W base sp held n f1.type ((cs.drop f1.offset).take (Try.prog.cellsOf f1.type)) = some y1 ∧ DataW.trod enc Try.prog W base sp held n f2.type ((cs.drop f2.offset).take (Try.prog.cellsOf f2.type)) = some y2 ∧ DataW.trod enc Try.prog W base sp held n f3.type ((cs.drop f3.offset).take (Try.prog.cellsOf f3.type)) = some y3 := by
  obtain ⟨xs, n, _, rfl, hl, hlen, hf⟩ := DataW.trod_struct ht h
  match xs, hlen with
  | [y0, y1, y2, y3], _ => exact ⟨y0, y1, y2, y3, n, by simp, hl, by simpa using hf 0 f0 rfl, by simpa using hf 1 f1 rfl, by simpa using hf 2 f2 rfl, by simpa using hf 3 f3 rfl⟩
end
end Go.Proofs.Yteihniiacfghoab
namespace Go.Proofs.Yteihniiacfghoab
open Go.ChangeShapes Go.WideShapes Go.ChangeAt Go.RowKit

/-- What is read as of that type lies as said. -/
def Opens {α : Type} (R : Rep α) (t : TypeId) : Prop :=
  ∀ {H : Type} {enc : TypeId × Value → H} {W : World} {base n : Nat} {sp : Nat → Bool} {held : Bool} {cs : List Value} {x : DataW H × List MemPlace},
    DataW.trod enc Try.prog W base sp held n t cs = some x → Light x.1 t → ∃ y, R (fun _ => True) W cs y
theorem opens_str : Opens RStr 9 := by
  intro H enc W base n sp held cs x h hl
  obtain ⟨s, hs, rfl, _⟩ := DataW.trod_string Try.underlying9 h
  refine ⟨s, hs, ?_⟩
  have := hl s.data.toList.length (by simp [DataW.weights])
  simp at this
  omega
theorem opens_int : Opens RInt 3 := by
  intro H enc W base n sp held cs x h _
  obtain ⟨e, e1, _, _⟩ := DataW.trod_int Try.underlying3 h
  exact ⟨e, e1⟩
theorem opens_bool : Opens RBool 4 := by
  intro H enc W base n sp held cs x h _
  obtain ⟨b, b1, _⟩ := DataW.trod_bool Try.underlying4 h
  exact ⟨b, b1⟩
theorem opens_slice {α : Type} [Inhabited α] {R : Rep α} {k bytes : Nat} {t e : TypeId} (hR : Firm R k) (hu : Try.prog.underlying t = some (.slice e)) (ck : Try.prog.cellsOf e = k) (bk : Try.prog.bytesOf e = bytes) (hk0 : 0 < k) (hE : Opens R e) : Opens (RSl R k bytes) t := by
  intro H enc W base n sp held cs x h hl
  rcases Go.Deep.open_slice hu h with ⟨hv, _⟩ | ⟨a, len, cap, m, nn, D, Pl, hv, _, hlc, _, hm, rfl, hel⟩
  · exact ⟨[], none, 0, 0, hv, SlAt.nil _ _ _ _ (fun _ => rfl)⟩
  · obtain ⟨w1, w2⟩ := light_slice hu hl
    simp only [List.length_map, List.length_range, bk] at w1
    have hml : len ≤ m := by rw [hm]; split <;> omega
    rw [ck] at hel
    have each : ∀ i, i < len → ∃ y : α, ∃ cs, R (fun _ => True) W cs y ∧ ∀ j u, cs[j]? = some u → W.cell? ((a.add (i * k)).add j) = some u := fun i hi => by
      obtain ⟨cs', h1, h2⟩ := hel i (by omega)
      obtain ⟨y, hy⟩ := hE h2 (w2 _ (List.mem_map.2 ⟨i, List.mem_range.2 hi, rfl⟩))
      obtain ⟨_, _, hcell⟩ := World.cells?_some h1
      refine ⟨y, cs', hy, fun j u hj => ?_⟩
      have hjk : j < k := by
        have := (List.getElem?_eq_some_iff.1 hj).1
        rwa [hR.len hy] at this
      rw [hcell j hjk, hj]
    obtain ⟨f, hf⟩ := Go.Deep.choose_lt each
    refine ⟨(List.range len).map f, some a, len, cap, hv, by simp, hlc, (fun h => by cases h), w1, fun hpos => ?_⟩
    obtain ⟨B, off, spot⟩ := a
    obtain ⟨cs0, hr0, hc0⟩ := hf 0 hpos
    have hex : ∃ u, cs0[0]? = some u := by
      cases e : cs0 with
      | nil => have := hR.len hr0; rw [e] at this; simp at this; omega
      | cons u r => exact ⟨u, rfl⟩
    obtain ⟨u0, hu0⟩ := hex
    have hc0 := hc0 0 u0 hu0
    have hsp : spot = none := by
      have := World.cell?_spot hc0
      simpa [Addr.add] using this
    subst hsp
    rw [add_lit, add_lit] at hc0
    refine ⟨B, off, rfl, addr_lt hc0, trivial, fun i hi => ?_⟩
    obtain ⟨cs, hr, hc⟩ := hf i hi
    refine ⟨cs, by rw [getD_range f len i hi]; exact hr, fun j u hj => ?_⟩
    have := hc j u hj
    rwa [add_lit, add_lit] at this
/-- The same of a struct's fields from a place on. -/
def OpensFs {α : Type} (fs : List Field) (off total : Nat) (R : Rep α) : Prop :=
  ∀ {H : Type} {enc : TypeId × Value → H} {W : World} {base n : Nat} {sp : Nat → Bool} {held : Bool} {cs : List Value}, cs.length = total →
    (∀ (j : Nat) (f : Field), fs[j]? = some f → ∃ d, DataW.trod enc Try.prog W base sp held n f.type ((cs.drop f.offset).take (Try.prog.cellsOf f.type)) = some d ∧ Light d.1 f.type) → ∃ y, R (fun _ => True) W (cs.drop off) y
theorem opensFs_last {α : Type} {R : Rep α} {f : Field} {off total : Nat} (ho : f.offset = off) (ht : off + Try.prog.cellsOf f.type = total) (h : Opens R f.type) : OpensFs [f] off total R := by
  intro H enc W base n sp held cs hl hf
  obtain ⟨d, h1, h2⟩ := hf 0 f rfl
  rw [ho, List.take_of_length_le (by rw [List.length_drop]; omega)] at h1
  exact h h1 h2
theorem opensFs_cons {α β : Type} {R : Rep α} {S : Rep β} {f : Field} {fs : List Field} {off m total : Nat} (ho : f.offset = off) (hm : off + Try.prog.cellsOf f.type = m) (h : Opens R f.type) (hs : OpensFs fs m total S) : OpensFs (f :: fs) off total (RPair R S) := by
  intro H enc W base n sp held cs hl hf
  obtain ⟨d, h1, h2⟩ := hf 0 f rfl
  rw [ho] at h1
  obtain ⟨y, hy⟩ := h h1 h2
  obtain ⟨z, hz⟩ := hs (cs := cs) hl (fun j g hg => hf (j + 1) g (by simpa using hg))
  refine ⟨(y, z), (cs.drop off).take (Try.prog.cellsOf f.type), cs.drop m, ?_, hy, hz⟩
  rw [← hm, ← List.drop_drop]
  exact (List.take_append_drop _ _).symm
theorem opens_struct {α : Type} {R : Rep α} {t : TypeId} {fs : Array Field} {total : Nat} (hu : Try.prog.underlying t = some (.struct fs)) (hc : Try.prog.cellsOf t = total) (h : OpensFs fs.toList 0 total R) : Opens R t := by
  intro H enc W base n sp held cs x hx hl
  obtain ⟨xs, m, _, rfl, hlen, hxs, hf⟩ := DataW.trod_struct hu hx
  have := h (enc := enc) (W := W) (base := base) (n := m) (sp := sp) (held := held) (cs := cs) (by rw [hlen, hc]) (fun j f hj => by
    have hj' : fs[j]? = some f := by simpa using hj
    have h1 := hf j f hj'
    have hlt : j < xs.length := by
      have := (Array.getElem?_eq_some_iff.1 hj').1
      omega
    have h2 : xs[j]? = some xs[j] := List.getElem?_eq_getElem hlt
    rw [h2] at h1
    refine ⟨xs[j], h1, light_struct hu hl (j := j) (by simp [hj']) (by simp [h2])⟩)
  simpa using this
theorem arg_agg {P : Program} {t : TypeId} {fs : Array Field} (hu : P.underlying t = some (.struct fs)) {H : Type} {enc : TypeId × Value → H} {W : World} {base b0 : Nat} {r : Reach} {sp : Nat → Bool} {held : Bool} {v : Value} {d : DataW H} {p : List MemPlace}
    (hv : Value.okWide P W r b0 t v) (hd : DataW.Trod enc P W base sp held t v d p) : ∃ (cs : Array Value) (fuel : Nat), v = .agg cs ∧ DataW.trod enc P W base sp held fuel t cs.toList = some (d, p) := by
  obtain ⟨cs, rfl, _⟩ := okWide_struct hu hv
  obtain ⟨fuel, hf⟩ := hd
  exact ⟨cs, fuel, rfl, hf⟩
set_option maxRecDepth 100000 in
/-- A struct that is handed in. -/
theorem opens_arg {α : Type} {R : Rep α} {t : TypeId} {fs : Array Field} (hu : Try.prog.underlying t = some (.struct fs)) (h : Opens R t) {H : Type} {enc : TypeId × Value → H} {W : World} {base b0 : Nat} {r : Reach} {sp : Nat → Bool} {held : Bool} {v : Value} {d : DataW H} {p : List MemPlace}
    (hv : Value.okWide Try.prog W r b0 t v) (hd : DataW.Trod enc Try.prog W base sp held t v d p) (hl : Light d t) : ∃ cs y, v = .agg cs ∧ R (fun _ => True) W cs.toList y := by
  obtain ⟨cs, fuel, e, hf⟩ := arg_agg hu hv hd
  obtain ⟨y, hy⟩ := h hf hl
  exact ⟨cs, y, e, hy⟩
end Go.Proofs.Yteihniiacfghoab
namespace Go.Proofs.Yteihniiacfghoab
open Go.ChangeShapes Go.WideShapes Go.ChangeAt Go.RowKit

theorem opens_Label : Opens RLabel 95 := opens_struct (total := 2) Try.underlying95 (by kernel_rfl) (opensFs_cons (m := 1) rfl (by kernel_rfl) opens_str (opensFs_last rfl (by kernel_rfl) opens_str))
theorem opens_s_str : Opens (RSl RStr 1 16) 31 := opens_slice RStr.firm Try.underlying31 (by kernel_rfl) (by kernel_rfl) (by decide) opens_str
theorem opens_Req : Opens RReq 79 := opens_struct (total := 3) Try.underlying79 (by kernel_rfl) (opensFs_cons (m := 1) rfl (by kernel_rfl) opens_str (opensFs_cons (m := 2) rfl (by kernel_rfl) opens_int (opensFs_last rfl (by kernel_rfl) opens_s_str)))
theorem opens_Res : Opens RRes 24 := opens_struct (total := 3) Try.underlying24 (by kernel_rfl) (opensFs_cons (m := 1) rfl (by kernel_rfl) opens_int (opensFs_cons (m := 2) rfl (by kernel_rfl) opens_int (opensFs_last rfl (by kernel_rfl) opens_int)))
theorem opens_Taint : Opens RTaint 77 := opens_struct (total := 3) Try.underlying77 (by kernel_rfl) (opensFs_cons (m := 1) rfl (by kernel_rfl) opens_str (opensFs_cons (m := 2) rfl (by kernel_rfl) opens_str (opensFs_last rfl (by kernel_rfl) opens_int)))
theorem opens_Bear : Opens RBear 42 := opens_struct (total := 4) Try.underlying42 (by kernel_rfl) (opensFs_cons (m := 1) rfl (by kernel_rfl) opens_str (opensFs_cons (m := 2) rfl (by kernel_rfl) opens_str (opensFs_cons (m := 3) rfl (by kernel_rfl) opens_bool (opensFs_last rfl (by kernel_rfl) opens_int))))
theorem opens_s_Req : Opens (RSl RReq 3 48) 26 := opens_slice RReq.firm Try.underlying26 (by kernel_rfl) (by kernel_rfl) (by decide) opens_Req
theorem opens_Term : Opens RTerm 123 := opens_struct (total := 2) Try.underlying123 (by kernel_rfl) (opensFs_cons (m := 1) rfl (by kernel_rfl) opens_s_Req (opensFs_last rfl (by kernel_rfl) opens_str))
theorem opens_Prefer : Opens RPrefer 67 := opens_struct (total := 2) Try.underlying67 (by kernel_rfl) (opensFs_cons (m := 1) rfl (by kernel_rfl) opens_s_Req (opensFs_last rfl (by kernel_rfl) opens_int))
theorem opens_Spread : Opens RSpread 125 := opens_struct (total := 4) Try.underlying125 (by kernel_rfl) (opensFs_cons (m := 1) rfl (by kernel_rfl) opens_str (opensFs_cons (m := 2) rfl (by kernel_rfl) opens_int (opensFs_cons (m := 3) rfl (by kernel_rfl) opens_int (opensFs_last rfl (by kernel_rfl) opens_s_Req))))
theorem opens_s_Label : Opens (RSl RLabel 2 32) 22 := opens_slice RLabel.firm Try.underlying22 (by kernel_rfl) (by kernel_rfl) (by decide) opens_Label
theorem opens_s_Bear : Opens (RSl RBear 4 48) 25 := opens_slice RBear.firm Try.underlying25 (by kernel_rfl) (by kernel_rfl) (by decide) opens_Bear
theorem opens_s_Prefer : Opens (RSl RPrefer 2 32) 27 := opens_slice RPrefer.firm Try.underlying27 (by kernel_rfl) (by kernel_rfl) (by decide) opens_Prefer
theorem opens_s_int : Opens (RSl RInt 1 8) 28 := opens_slice RInt.firm Try.underlying28 (by kernel_rfl) (by kernel_rfl) (by decide) opens_int
theorem opens_s_Term : Opens (RSl RTerm 2 40) 29 := opens_slice RTerm.firm Try.underlying29 (by kernel_rfl) (by kernel_rfl) (by decide) opens_Term
theorem opens_s_Spread : Opens (RSl RSpread 4 56) 30 := opens_slice RSpread.firm Try.underlying30 (by kernel_rfl) (by kernel_rfl) (by decide) opens_Spread
theorem opens_Pod : Opens RPod 33 := opens_struct (total := 16) Try.underlying33 (by kernel_rfl) (opensFs_cons (m := 1) rfl (by kernel_rfl) opens_str (opensFs_cons (m := 2) rfl (by kernel_rfl) opens_int (opensFs_cons (m := 3) rfl (by kernel_rfl) opens_s_Label (opensFs_cons (m := 6) rfl (by kernel_rfl) opens_Res (opensFs_cons (m := 7) rfl (by kernel_rfl) opens_s_Bear (opensFs_cons (m := 8) rfl (by kernel_rfl) opens_s_Req (opensFs_cons (m := 9) rfl (by kernel_rfl) opens_s_Prefer (opensFs_cons (m := 10) rfl (by kernel_rfl) opens_s_int (opensFs_cons (m := 11) rfl (by kernel_rfl) opens_s_Term (opensFs_cons (m := 12) rfl (by kernel_rfl) opens_s_Term (opensFs_cons (m := 13) rfl (by kernel_rfl) opens_s_Spread (opensFs_cons (m := 14) rfl (by kernel_rfl) opens_s_str (opensFs_cons (m := 15) rfl (by kernel_rfl) opens_str (opensFs_last rfl (by kernel_rfl) opens_str))))))))))))))
theorem opens_s_Taint : Opens (RSl RTaint 3 40) 45 := opens_slice RTaint.firm Try.underlying45 (by kernel_rfl) (by kernel_rfl) (by decide) opens_Taint
theorem opens_Node : Opens RNode 47 := opens_struct (total := 9) Try.underlying47 (by kernel_rfl) (opensFs_cons (m := 1) rfl (by kernel_rfl) opens_str (opensFs_cons (m := 2) rfl (by kernel_rfl) opens_s_Label (opensFs_cons (m := 3) rfl (by kernel_rfl) opens_s_Taint (opensFs_cons (m := 4) rfl (by kernel_rfl) opens_bool (opensFs_cons (m := 7) rfl (by kernel_rfl) opens_Res (opensFs_cons (m := 8) rfl (by kernel_rfl) opens_int (opensFs_last rfl (by kernel_rfl) opens_int)))))))
end Go.Proofs.Yteihniiacfghoab
namespace Go.Proofs.Yteihniiacfghoab
open Go.RowKit
set_option linter.unusedSimpArgs false

theorem opens_Info : Opens RInfo 49 := opens_struct (total := 15) Try.underlying49 (by kernel_rfl) (opensFs_cons (m := 9) rfl (by kernel_rfl) opens_Node (opensFs_cons (m := 10) rfl (by kernel_rfl) opens_s_str (opensFs_cons (m := 13) rfl (by kernel_rfl) opens_Res (opensFs_cons (m := 14) rfl (by kernel_rfl) opens_s_int (opensFs_last rfl (by kernel_rfl) opens_s_str)))))
/-- A number of Go's. -/
def RIntB : Rep Int := fun _ _ cs n => cs = [.int .i64 n] ∧ n ≤ 9223372036854775807
theorem opens_intB : Opens RIntB 3 := by
  intro H enc W base n sp held cs x h _
  obtain ⟨e, e1, _, hw⟩ := DataW.trod_int Try.underlying3 h
  refine ⟨e, e1, ?_⟩
  simp [Lit.wf, IntKind.max, IntKind.min, IntKind.bits, IntKind.signed] at hw
  omega
def RNodeB : Rep NodeD := RPair RStr (RPair (RSl RLabel 2 32) (RPair (RSl RTaint 3 40) (RPair RBool (RPair RRes (RPair RIntB RInt)))))
theorem RNodeB.node {A : Where} {w : World} {cs : List Value} {x : NodeD} (h : RNodeB A w cs x) : RNode A w cs x ∧ x.2.2.2.2.2.1 ≤ 9223372036854775807 := by
  obtain ⟨c0, d0, e0, h0, c1, d1, e1, h1, c2, d2, e2, h2, c3, d3, e3, h3, c4, d4, e4, h4, c5, d5, e5, h5, h6⟩ := h
  exact ⟨⟨c0, d0, e0, h0, c1, d1, e1, h1, c2, d2, e2, h2, c3, d3, e3, h3, c4, d4, e4, h4, c5, d5, e5, h5.1, h6⟩, h5.2⟩
theorem opens_NodeB : Opens RNodeB 47 := opens_struct (total := 9) Try.underlying47 (by kernel_rfl) (opensFs_cons (m := 1) rfl (by kernel_rfl) opens_str (opensFs_cons (m := 2) rfl (by kernel_rfl) opens_s_Label (opensFs_cons (m := 3) rfl (by kernel_rfl) opens_s_Taint (opensFs_cons (m := 4) rfl (by kernel_rfl) opens_bool (opensFs_cons (m := 7) rfl (by kernel_rfl) opens_Res (opensFs_cons (m := 8) rfl (by kernel_rfl) opens_intB (opensFs_last rfl (by kernel_rfl) opens_int)))))))
def RInfoB : Rep InfoD := RPair RNodeB (RPair (RSl RStr 1 16) (RPair RRes (RPair (RSl RInt 1 8) (RSl RStr 1 16))))
theorem RInfoB.info {A : Where} {w : World} {cs : List Value} {x : InfoD} (h : RInfoB A w cs x) : RInfo A w cs x ∧ x.1.2.2.2.2.2.1 ≤ 9223372036854775807 := by
  obtain ⟨c, d, e, hn, hr⟩ := h
  exact ⟨⟨c, d, e, hn.node.1, hr⟩, hn.node.2⟩
end Go.Proofs.Yteihniiacfghoab
namespace Go.Proofs.Yteihniiacfghoab
open Go.ChangeShapes Go.WideShapes Go.ChangeAt Go.RowKit
set_option linter.unusedSimpArgs false
set_option maxRecDepth 100000

theorem opens_s_Info : Opens (RSl RInfo 15 208) 34 := opens_slice RInfo.firm Try.underlying34 (by kernel_rfl) (by kernel_rfl) (by decide) opens_Info
theorem opens_s_intS : Opens (RSl RInt 1 8) 28 := opens_slice RInt.firm Try.underlying28 (by kernel_rfl) (by kernel_rfl) (by decide) opens_int
theorem opens_s_boolS : Opens (RSl RBool 1 1) 53 := opens_slice RBool.firm Try.underlying53 (by kernel_rfl) (by kernel_rfl) (by decide) opens_bool
/-- An array of four numbers. -/
theorem open_w4 {H : Type} {enc : TypeId × Value → H} {W : World} {base b0 : Nat} {r : Reach} {sp : Nat → Bool} {held : Bool} {v : Value} {d : DataW H} {p : List MemPlace}
    (hv : Value.okWide Try.prog W r b0 35 v) (hd : DataW.Trod enc Try.prog W base sp held 35 v d p) : ∃ w0 w1 w2 w3 : Int, v = .agg #[.int .i64 w0, .int .i64 w1, .int .i64 w2, .int .i64 w3] := by
  simp only [Value.okWide, Try.underlying35] at hv
  obtain ⟨cs, rfl, hl, _⟩ := hv
  obtain ⟨fuel, hf⟩ := hd
  obtain ⟨xs, m, _, _, hlen, hxs, hi⟩ := DataW.trod_array Try.underlying35 hf
  have hc1 : Try.prog.cellsOf 3 = 1 := by kernel_rfl
  have hc4 : Try.prog.cellsOf 35 = 4 := by kernel_rfl
  rw [hc4] at hl
  have hl4 : cs.toList.length = 4 := by rw [Array.length_toList]; exact hl
  have hi : ∀ i, i < 4 → DataW.trod enc Try.prog W base sp held m 3 ((cs.toList.drop (i * Try.prog.cellsOf 3)).take (Try.prog.cellsOf 3)) = xs[i]? := hi
  clear hlen hf
  have hg : ∀ i, i < 4 → ∃ n : Int, (cs.toList.drop i).take 1 = [.int .i64 n] := fun i h => by
    have h1 := hi i h
    rw [hc1, Nat.mul_one, List.getElem?_eq_getElem (by omega : i < xs.length)] at h1
    obtain ⟨n, e, _⟩ := DataW.trod_int Try.underlying3 h1
    exact ⟨n, e⟩
  obtain ⟨w0, e0⟩ := hg 0 (by decide)
  obtain ⟨w1, e1⟩ := hg 1 (by decide)
  obtain ⟨w2, e2⟩ := hg 2 (by decide)
  obtain ⟨w3, e3⟩ := hg 3 (by decide)
  refine ⟨w0, w1, w2, w3, ?_⟩
  clear hg hi hc1 hc4 hl hxs
  obtain ⟨l⟩ := cs
  have hl4 : l.length = 4 := hl4
  dsimp only at e0 e1 e2 e3
  rcases l with _ | ⟨a, _ | ⟨b, _ | ⟨c, _ | ⟨d, _ | ⟨x, l⟩⟩⟩⟩⟩
  · cases hl4
  · cases hl4
  · cases hl4
  · cases hl4
  · simp only [List.drop_zero, List.drop_succ_cons, List.take_succ_cons, List.take_zero, List.cons.injEq, and_true] at e0 e1 e2 e3
    subst e0 e1 e2 e3
    rfl
  · simp only [List.length_cons] at hl4; omega
end Go.Proofs.Yteihniiacfghoab
namespace Go.Proofs.Yteihniiacfghoab
open Go.RowKit
set_option linter.unusedSimpArgs false
set_option maxRecDepth 100000

set_option maxHeartbeats 1000000 in
theorem Ints_row (a : Option Addr) (n cap : Nat) (A : Where) (L : List Int) (w : World) (hL : Hid (SlAt RInt 1 8 A w a n cap L)) : Calls Try.prog 8 #[.slice a n cap] w fun e w' => ∃ v, e = .returned v ∧ Row RInt 1 (fun _ => False) w w' 3 v L := by
  have hb0 : Below w.heap.size w (w.alloc (.cells #[] 3)) := by go_grown
  have HR : Hid (Row RInt 1 (fun _ => False) w (w.alloc (.cells #[] 3)) 3 (.slice (some ⟨w.heap.size, 0, none⟩) 0 0) []) := Row.start _ w w _ (Below.refl _ _)
  have HN : Hid (Src RInt 1 (fun b => False ∧ Value.ownBlock (.slice (some ⟨w.heap.size, 0, none⟩) 0 0) ≠ some b) (w.alloc (.cells #[] 3)) a n L) := ((hL.out.on RInt.firm hb0).src RInt.firm).flat RInt.flat
  have HB : Hid ((([] : List Int).length + L.length) * 8 ≤ 140737488355328) := by have h1 := hL.out.2.2.2.1; have h2 := hL.out.1; rw [Hid, h2]; simp; omega
  clear hb0 hL
  go_enter Try.func8, Try.ntmps8
  go_wp2_with (at_builtin; go_must (refine row_appendS RInt.firm (A := (fun _ => False)) (w0 := w) rfl _ _ 28 3 rfl _ 8 infoint Try.underlying28 rfl (by decide) (by decide) _ [] rfl HR.out a n cap L rfl HN.out HB.out ?_); intro v1 w1 hrow1 hg1)
  go_ret
  exact ⟨v1, rfl, by simpa using hrow1⟩
end Go.Proofs.Yteihniiacfghoab
