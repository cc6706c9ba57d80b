/- object.allRight at Node, by what the kind says of one, and its like. No condition beyond what each says. -/
import Derived.Shelf.Abstract
import Derived.Laws.Cover1
import Derived.Test.YtopimokncibdgaaGreatQ14
namespace Go.Proofs.YtopimokncibdgaaGreat
set_option maxHeartbeats 16000000
set_option maxRecDepth 100000
open Tryz Go.RowKit
set_option linter.unusedSimpArgs false
theorem all1Node (s : String) (hm : ∀ w, (method 406 137 (.agg #[]) s).run prog w = .ok (182, .agg #[]) w) (p : NodeD → Bool) (D : Nat) (w : World) (hD : D < w.heap.size) (cD : w.cell? ⟨D, 0, none⟩ = some (.func (.method s) #[.iface 137 (.agg #[])] #[])) (hpr : p = rightNode) : PredNode 211 #[.pointer (some ⟨D, 0, none⟩)] (fun x => !p x) w := fun W cs x hb hr0 => by
 have hr : Hid (RNode (fun _ => True) W cs x) := hr0
 clear hr0
 have HV : Hid ((W.alloc (.cells cs.toArray 36)).rangeAt W.heap.size 0 cs) := range_all rfl
 have hi : (prog.info? 36).map (·.size) = some cs.length := by rw [RNode.firm.len hr.out]; exact itNode
 have HB0 : Hid (Below w.heap.size w (W.alloc (.cells cs.toArray 36))) := on2 hb (by go_grown)
 have HBW : Hid (Below W.heap.size W (W.alloc (.cells cs.toArray 36))) := by unfold Hid; go_grown
 have hDW : D < W.heap.size := by have := hb.size; omega
 have hne : D ≠ W.heap.size := by omega
 have d0 := (hb.cell (p := ⟨D, 0, none⟩) hD).trans cD
 subst hpr
 have hcall := (Node_right cs _ x (W.alloc (.cells cs.toArray 36)) (RNode.firm.kept hr.out (Kept.alloc _ _ _)))
 show Calls prog 211 #[.agg cs.toArray, .pointer (some ⟨D, 0, none⟩)] W fun e w' => e = .returned (.bool (!rightNode x)) ∧ Below W.heap.size W w'
 generalize rightNode x = r at hcall ⊢
 clear cD hb
 go_enter func211, ntmps211
 go_wp2_with (first | (refine wpList_load_mid rfl 36 _ rfl W.heap.size 0 rfl cs _ HV.out underlying36 rfl hi ?_) | fail)
 refine hcall.mono ?_
 rintro e w1 ⟨rfl, hb1⟩
 go_wp2_with fail
 go_ret
 exact ⟨rfl, on2 HBW.out hb1⟩
theorem entsNode : ∀ args w, (callFunc 211 args).run prog w = .ok (.enter 211 args) w := Go.Proofs.enters_of func211 (by kernel_rfl) rfl
theorem not_anyNode (L : List NodeD) (p : NodeD → Bool) : (!L.any (fun x => !p x)) = L.all p := by
 rw [Bool.eq_iff_iff]; simp
theorem allRightNode_calls (s : String) (hm : ∀ w, (method 406 137 (.agg #[]) s).run prog w = .ok (182, .agg #[]) w) (a : Option Addr) (n cap : Nat) (A : Where) (L : List NodeD) (w : World) (hL : Hid (SlAt RNode 9 112 A w a n cap L)) : Calls prog 203 #[.slice a n cap, .func (.method s) #[.iface 137 (.agg #[])] #[]] w fun e w' => e = .returned (.bool (L.all rightNode)) ∧ Below w.heap.size w w' := by
 have hb0 : Below w.heap.size w (w.alloc (.cells #[.func (.method s) #[.iface 137 (.agg #[])] #[]] 88)) := by go_grown
 have hC := ContainsNode_calls a n cap A L (w.alloc (.cells #[.func (.method s) #[.iface 137 (.agg #[])] #[]] 88)) (hL.out.on RNode.firm hb0) (fun x => !rightNode x) 211 #[.pointer (some ⟨w.heap.size, 0, none⟩)] entsNode (all1Node s hm rightNode w.heap.size _ (by simp) (by simp [go_sem]) rfl)
 have HF := not_anyNode L rightNode
 generalize L.any (fun x => !rightNode x) = r at hC HF
 have HF2 : Hid ((!r) = L.all rightNode) := HF
 clear HF hL
 go_enter func203, ntmps203
 go_wp2_with fail
 refine hC.mono ?_
 rintro e w1 ⟨rfl, hb1⟩
 go_wp2_with fail
 go_ret
 exact ⟨retb HF2.out, on2 hb0 hb1⟩
theorem Node_blank (c : List Value) (A : Where) (x : NodeD) (w : World) (h : Hid (RNode A w c x)) : Calls prog 177 #[.agg #[], .agg c.toArray] w fun e w' => e = .returned (.bool (blankNode x)) ∧ Below w.heap.size w w' := by
 obtain ⟨h1, h2, rfl, _, g1, g2⟩ := h.out.out
 have l1 := g1.len (by decide)
 have l2 := g2.len (by decide)
 have H1 : Hid (SlAt RLabel 2 32 A w h1.1 h1.2.1 h1.2.2 x.2.1) := g1
 have H2 : Hid (SlAt RTaint 3 40 A w h2.1 h2.2.1 h2.2.2 x.2.2.1) := g2
 clear h g1 g2
 have HB : Hid (Below w.heap.size w ((w.alloc (.cells #[] 137)).alloc (.cells #[.string x.1, J h1, J h2, .bool x.2.2.2.1, .int .i64 x.2.2.2.2.1.1, .int .i64 x.2.2.2.2.1.2.1, .int .i64 x.2.2.2.2.1.2.2, .int .i64 x.2.2.2.2.2.1, .int .i64 x.2.2.2.2.2.2] 36))) := by unfold Hid; go_grown
 obtain ⟨b0, e0⟩ : ∃ b : Bool, (emptyL x.2.1 && emptyL x.2.2.1) = b := ⟨_, rfl⟩
 obtain ⟨b1, e1⟩ : ∃ b : Bool, sNil x.1 = b := ⟨_, rfl⟩
 obtain ⟨b2, e2⟩ : ∃ b : Bool, (!x.2.2.2.1) = b := ⟨_, rfl⟩
 obtain ⟨b3, e3⟩ : ∃ b : Bool, resZ x.2.2.2.2.1 = b := ⟨_, rfl⟩
 obtain ⟨b4, e4⟩ : ∃ b : Bool, (x.2.2.2.2.2.1 == 0) = b := ⟨_, rfl⟩
 obtain ⟨b5, e5⟩ : ∃ b : Bool, (x.2.2.2.2.2.2 == 0) = b := ⟨_, rfl⟩
 have HF : Hid (blankNode x = (b0 && b1 && b2 && b3 && b4 && b5)) := by rw [Hid, ← e0, ← e1, ← e2, ← e3, ← e4, ← e5]; rfl
 have t0 : ((h1.2.1 : Int) + (h2.2.1 : Int) == 0) = b0 := by rw [← e0]; simp only [emptyL, H1.out.1, H2.out.1]; rw [Bool.eq_iff_iff]; simp; omega
 clear e0
 have t1 : x.1.toList.isEmpty = b1 := by exact e1
 clear e1
 have t2 : (!x.2.2.2.1) = b2 := by exact e2
 clear e2
 have t3 : resZ x.2.2.2.2.1 = b3 := by exact e3
 clear e3
 have t4 : (x.2.2.2.2.2.1 == 0) = b4 := by exact e4
 clear e4
 have t5 : (x.2.2.2.2.2.2 == 0) = b5 := by exact e5
 clear e5
 have hE := eqR0 x.2.2.2.2.1
 have hG := guardR
 cases b0
 ·
  go_enter func177, ntmps177
  go_wp2_with fail
  go_ret
  exact ⟨retb (by rw [HF.out] <;> simp), HB.out⟩
 cases b1
 ·
  go_enter func177, ntmps177
  go_wp2_with fail
  go_ret
  exact ⟨retb (by rw [HF.out] <;> simp), HB.out⟩
 cases b2
 ·
  go_enter func177, ntmps177
  go_wp2_with fail
  go_ret
  exact ⟨retb (by rw [HF.out] <;> simp), HB.out⟩
 cases b3
 ·
  go_enter func177, ntmps177
  go_wp2_with fail
  go_ret
  exact ⟨retb (by rw [HF.out] <;> simp), HB.out⟩
 cases b4
 ·
  go_enter func177, ntmps177
  go_wp2_with fail
  go_ret
  exact ⟨retb (by rw [HF.out] <;> simp), HB.out⟩
 cases b5
 ·
  go_enter func177, ntmps177
  go_wp2_with fail
  go_ret
  exact ⟨retb (by rw [HF.out] <;> simp), HB.out⟩
 go_enter func177, ntmps177
 go_wp2_with fail
 go_ret
 exact ⟨retb (by rw [HF.out] <;> simp), HB.out⟩
theorem Node_kright (p c q : List Value) (x : NodeD) (A : Where) (w : World) (h : Hid (RNode A w c x)) (hp : p.length = 17) (hall : (p ++ (c ++ q)).length = 40) : Calls prog 197 #[.agg #[.iface 137 (.agg #[])], .agg (p ++ (c ++ q)).toArray] w fun e w' => e = .returned (.bool (rightNode x)) ∧ Below w.heap.size w w' := by
 have hi : (prog.info? 46).map (·.size) = some (p ++ (c ++ q)).length := by rw [hall]; exact infoObj
 have HH : Hid (Held w [(w.heap.size + 1, p ++ (c ++ q)), (w.heap.size, [.iface 137 (.agg #[])])] [] ((w.alloc (.cells #[.iface 137 (.agg #[])] 141)).alloc (.cells (p ++ (c ++ q)).toArray 46))) := ((Held.start w).push rfl [.iface 137 (.agg #[])] 141).push (by simp) (p ++ (c ++ q)) 46
 have hc := RNode.firm.len h.out
 have h1 := RNode.firm.one h.out
 go_enter func197, ntmps197
 go_wp2_with fail
 refine wp_region_noPanic ?_
 refine wp_region_held_drew (S := Held w [(w.heap.size + 1, p ++ (c ++ q)), (w.heap.size, [.iface 137 (.agg #[])])] []) (by kernel_rfl) (HH.out.drew) (fun hH => ?_)
 refine tp 0 ?_
 try go_frame
 refine' tk 1 ?_ ?_; rotate_left
 ·
  intro u hu; have hc0 := Held.cell hu 1 rfl 0 rfl; clear hu; go_simp; try with_reducible rfl
 try go_frame
 refine tp 2 ?_
 try go_frame
 refine' tk 3 ?_ ?_; rotate_left
 ·
  intro u hu; have hc0 := Held.cell hu 1 rfl 0 rfl; clear hu; go_simp; try with_reducible rfl
 try go_frame
 refine tq 4 (.agg (p ++ (c ++ q)).toArray) (yieldsIf_load_mid (by rfl) 46 _ rfl (w.heap.size + 1) 0 rfl (p ++ (c ++ q)) _ (fun u hu => Held.get hu 0 rfl) underlying46 rfl hi) ?_ (hi := rfl)
 try go_frame
 refine tp 6 ?_
 try go_frame
 refine tp 7 ?_
 try go_frame
 refine tr 5 (fun K hK => ?_)
 refine want_yes (by rfl) (call_enter (f := 179) (args := #[.agg #[], .agg (p ++ (c ++ q)).toArray]) (by kernel_rfl) (Node_member p c q hp hc h1 _) (fun e u1 he => ?_))
 obtain ⟨rfl, hb1⟩ := he
 have HB1 : Hid (Below w.heap.size w u1) := on2 hH.below hb1
 refine ⟨_, rfl, hK.out _ _ (hH.on hb1) (fun hH => ?_)⟩
 clear hK K
 try go_frame
 refine tr 8 (fun K hK => ?_)
 refine want_yes (by rfl) (call_enter (f := 182) (args := #[.agg #[], .agg c.toArray]) (by kernel_rfl) (Node_right c A x _ (RNode.firm.kept h.out (Kept.below HB1.out))) (fun e u1 he => ?_))
 obtain ⟨rfl, hb2⟩ := he
 have HB2 : Hid (Below w.heap.size w u1) := on2 hH.below hb2
 refine ⟨_, rfl, hK.out _ _ (hH.on hb2) (fun hH => ?_)⟩
 clear hK K
 try go_frame
 refine tp 9 ?_
 try go_frame
 refine wpAnyH_done (by kernel_rfl) ?_ _
 refine NoPanic.normal ?_
 go_wp2_with fail
 go_ret
 exact ⟨rfl, HB2.out⟩
theorem Node_kblank (p c q : List Value) (x : NodeD) (A : Where) (w : World) (h : Hid (RNode A w c x)) (hp : p.length = 17) (hall : (p ++ (c ++ q)).length = 40) : Calls prog 191 #[.agg #[.iface 137 (.agg #[])], .agg (p ++ (c ++ q)).toArray] w fun e w' => e = .returned (.bool (blankNode x)) ∧ Below w.heap.size w w' := by
 have hi : (prog.info? 46).map (·.size) = some (p ++ (c ++ q)).length := by rw [hall]; exact infoObj
 have HH : Hid (Held w [(w.heap.size + 1, p ++ (c ++ q)), (w.heap.size, [.iface 137 (.agg #[])])] [] ((w.alloc (.cells #[.iface 137 (.agg #[])] 141)).alloc (.cells (p ++ (c ++ q)).toArray 46))) := ((Held.start w).push rfl [.iface 137 (.agg #[])] 141).push (by simp) (p ++ (c ++ q)) 46
 have hc := RNode.firm.len h.out
 have h1 := RNode.firm.one h.out
 go_enter func191, ntmps191
 go_wp2_with fail
 refine wp_region_noPanic ?_
 refine wp_region_held_drew (S := Held w [(w.heap.size + 1, p ++ (c ++ q)), (w.heap.size, [.iface 137 (.agg #[])])] []) (by kernel_rfl) (HH.out.drew) (fun hH => ?_)
 refine tp 0 ?_
 try go_frame
 refine' tk 1 ?_ ?_; rotate_left
 ·
  intro u hu; have hc0 := Held.cell hu 1 rfl 0 rfl; clear hu; go_simp; try with_reducible rfl
 try go_frame
 refine tp 2 ?_
 try go_frame
 refine' tk 3 ?_ ?_; rotate_left
 ·
  intro u hu; have hc0 := Held.cell hu 1 rfl 0 rfl; clear hu; go_simp; try with_reducible rfl
 try go_frame
 refine tq 4 (.agg (p ++ (c ++ q)).toArray) (yieldsIf_load_mid (by rfl) 46 _ rfl (w.heap.size + 1) 0 rfl (p ++ (c ++ q)) _ (fun u hu => Held.get hu 0 rfl) underlying46 rfl hi) ?_ (hi := rfl)
 try go_frame
 refine tp 6 ?_
 try go_frame
 refine tp 7 ?_
 try go_frame
 refine tr 5 (fun K hK => ?_)
 refine want_yes (by rfl) (call_enter (f := 179) (args := #[.agg #[], .agg (p ++ (c ++ q)).toArray]) (by kernel_rfl) (Node_member p c q hp hc h1 _) (fun e u1 he => ?_))
 obtain ⟨rfl, hb1⟩ := he
 have HB1 : Hid (Below w.heap.size w u1) := on2 hH.below hb1
 refine ⟨_, rfl, hK.out _ _ (hH.on hb1) (fun hH => ?_)⟩
 clear hK K
 try go_frame
 refine tr 8 (fun K hK => ?_)
 refine want_yes (by rfl) (call_enter (f := 177) (args := #[.agg #[], .agg c.toArray]) (by kernel_rfl) (Node_blank c A x _ (RNode.firm.kept h.out (Kept.below HB1.out))) (fun e u1 he => ?_))
 obtain ⟨rfl, hb2⟩ := he
 have HB2 : Hid (Below w.heap.size w u1) := on2 hH.below hb2
 refine ⟨_, rfl, hK.out _ _ (hH.on hb2) (fun hH => ?_)⟩
 clear hK K
 try go_frame
 refine tp 9 ?_
 try go_frame
 refine wpAnyH_done (by kernel_rfl) ?_ _
 refine NoPanic.normal ?_
 go_wp2_with fail
 go_ret
 exact ⟨rfl, HB2.out⟩
theorem headNode {A : Where} {w : World} {c : List Value} {x : NodeD} (h : RNode A w c x) : ∃ r, c = .string x.1 :: r := by
 obtain ⟨c1, d, rfl, ⟨rfl, _⟩, _⟩ := h
 exact ⟨d, rfl⟩
theorem Node_named (c : List Value) (A : Where) (x : NodeD) (w : World) (h : RNode A w c x) : Calls prog 180 #[.agg #[], .agg c.toArray] w fun e w' => e = .returned (.string x.1) ∧ Below w.heap.size w w' := by
 obtain ⟨r, rfl⟩ := headNode h
 exact Node_name x.1 r w
theorem Node_kcount (h0 h1 h2 h3 h4 h5 : Hd) (w : World) : Calls prog 192 #[.agg #[.iface 137 (.agg #[])], .agg #[J h0, J h1, J h2, J h3, J h4, J h5]] w fun e w' => e = .returned (.int .i64 (h1.2.1 : Nat)) ∧ Below w.heap.size w w' := by
 have hL := Node_list (J h0) (J h1) (J h2) (J h3) (J h4) (J h5)
 go_enter func192, ntmps192
 go_wp2_with fail
 refine (hL _).mono ?_
 rintro e w1 ⟨rfl, hb1⟩
 go_wp2_with fail
 go_ret
 exact ⟨rfl, on2 (by go_grown) hb1⟩
theorem find1Node (s : ByteArray) (D E : Nat) (w : World) (hD : D < w.heap.size) (hE : E < w.heap.size) (cD : w.cell? ⟨D, 0, none⟩ = some (.iface 137 (.agg #[]))) (cE : w.cell? ⟨E, 0, none⟩ = some (.string s)) : PredNode 206 #[.pointer (some ⟨D, 0, none⟩), .pointer (some ⟨E, 0, none⟩)] (fun x => sEq x.1 s) w := fun W cs x hb hr0 => by
 have hr : Hid (RNode (fun _ => True) W cs x) := hr0
 have hi : (prog.info? 36).map (·.size) = some cs.length := by rw [RNode.firm.len hr0]; exact itNode
 have HH : Hid (Held W [(W.heap.size, cs)] [] (W.alloc (.cells cs.toArray 36))) := (Held.start W).push rfl cs 36
 have hDW : D < W.heap.size := Nat.lt_of_lt_of_le hD hb.size
 have hEW : E < W.heap.size := Nat.lt_of_lt_of_le hE hb.size
 have HD : Hid (W.cell? ⟨D, 0, none⟩ = some (.iface 137 (.agg #[]))) := (hb.cell (p := ⟨D, 0, none⟩) hD).trans cD
 have HE : Hid (W.cell? ⟨E, 0, none⟩ = some (.string s)) := (hb.cell (p := ⟨E, 0, none⟩) hE).trans cE
 show Calls prog 206 #[.agg cs.toArray, .pointer (some ⟨D, 0, none⟩), .pointer (some ⟨E, 0, none⟩)] W fun e w' => e = .returned (.bool (sEq x.1 s)) ∧ Below W.heap.size W w'
 clear cD cE hb hD hE hr0
 go_enter func206, ntmps206
 go_wp2_with fail
 refine wp_region_noPanic ?_
 refine wp_region_held_drew (S := Held W [(W.heap.size, cs)] []) (by kernel_rfl) (HH.out.drew) (fun hH => ?_)
 refine' tk 0 ?_ ?_; rotate_left
 ·
  intro u hu; have hc0 := (hu.below.cell (p := ⟨D, 0, none⟩) hDW).trans HD.out; clear hu; go_simp; try with_reducible rfl
 try go_frame
 refine tq 1 (.agg (cs).toArray) (yieldsIf_load_mid (by rfl) 36 _ rfl (W.heap.size) 0 rfl (cs) _ (fun u hu => Held.get hu 0 rfl) underlying36 rfl hi) ?_ (hi := rfl)
 try go_frame
 refine' tk 3 ?_ ?_; rotate_left
 ·
  intro u hu; have hc0 := (hu.below.cell (p := ⟨E, 0, none⟩) hEW).trans HE.out; clear hu; go_simp; try with_reducible rfl
 try go_frame
 refine tr 2 (fun K hK => ?_)
 refine want_yes (by rfl) (call_enter (f := 180) (args := #[.agg #[], .agg cs.toArray]) (by kernel_rfl) (Node_named cs _ x _ (RNode.firm.kept hr.out (Kept.below hH.below))) (fun e u1 he => ?_))
 obtain ⟨rfl, hb1⟩ := he
 have HB1 : Hid (Below W.heap.size W u1) := on2 hH.below hb1
 refine ⟨_, rfl, hK.out _ _ (hH.on hb1) (fun hH => ?_)⟩
 clear hK K
 try go_frame
 refine tp 4 ?_
 try go_frame
 refine tp 5 ?_
 try go_frame
 refine wpAnyH_done (by kernel_rfl) ?_ _
 refine NoPanic.normal ?_
 go_wp2_with fail
 go_ret
 exact ⟨retb (by simp only [sEq]), HB1.out⟩
theorem ent_findNode : ∀ args w, (callFunc 206 args).run prog w = .ok (.enter 206 args) w := Go.Proofs.enters_of func206 (by kernel_rfl) rfl
theorem place1Node (s : ByteArray) (D E : Nat) (w : World) (hD : D < w.heap.size) (hE : E < w.heap.size) (cD : w.cell? ⟨D, 0, none⟩ = some (.iface 137 (.agg #[]))) (cE : w.cell? ⟨E, 0, none⟩ = some (.string s)) : PredNode 209 #[.pointer (some ⟨D, 0, none⟩), .pointer (some ⟨E, 0, none⟩)] (fun x => sGt x.1 s) w := fun W cs x hb hr0 => by
 have hr : Hid (RNode (fun _ => True) W cs x) := hr0
 have hi : (prog.info? 36).map (·.size) = some cs.length := by rw [RNode.firm.len hr0]; exact itNode
 have HH : Hid (Held W [(W.heap.size, cs)] [] (W.alloc (.cells cs.toArray 36))) := (Held.start W).push rfl cs 36
 have hDW : D < W.heap.size := Nat.lt_of_lt_of_le hD hb.size
 have hEW : E < W.heap.size := Nat.lt_of_lt_of_le hE hb.size
 have HD : Hid (W.cell? ⟨D, 0, none⟩ = some (.iface 137 (.agg #[]))) := (hb.cell (p := ⟨D, 0, none⟩) hD).trans cD
 have HE : Hid (W.cell? ⟨E, 0, none⟩ = some (.string s)) := (hb.cell (p := ⟨E, 0, none⟩) hE).trans cE
 show Calls prog 209 #[.agg cs.toArray, .pointer (some ⟨D, 0, none⟩), .pointer (some ⟨E, 0, none⟩)] W fun e w' => e = .returned (.bool (sGt x.1 s)) ∧ Below W.heap.size W w'
 clear cD cE hb hD hE hr0
 go_enter func209, ntmps209
 go_wp2_with fail
 refine wp_region_noPanic ?_
 refine wp_region_held_drew (S := Held W [(W.heap.size, cs)] []) (by kernel_rfl) (HH.out.drew) (fun hH => ?_)
 refine' tk 0 ?_ ?_; rotate_left
 ·
  intro u hu; have hc0 := (hu.below.cell (p := ⟨D, 0, none⟩) hDW).trans HD.out; clear hu; go_simp; try with_reducible rfl
 try go_frame
 refine tq 1 (.agg (cs).toArray) (yieldsIf_load_mid (by rfl) 36 _ rfl (W.heap.size) 0 rfl (cs) _ (fun u hu => Held.get hu 0 rfl) underlying36 rfl hi) ?_ (hi := rfl)
 try go_frame
 refine' tk 3 ?_ ?_; rotate_left
 ·
  intro u hu; have hc0 := (hu.below.cell (p := ⟨E, 0, none⟩) hEW).trans HE.out; clear hu; go_simp; try with_reducible rfl
 try go_frame
 refine tr 2 (fun K hK => ?_)
 refine want_yes (by rfl) (call_enter (f := 180) (args := #[.agg #[], .agg cs.toArray]) (by kernel_rfl) (Node_named cs _ x _ (RNode.firm.kept hr.out (Kept.below hH.below))) (fun e u1 he => ?_))
 obtain ⟨rfl, hb1⟩ := he
 have HB1 : Hid (Below W.heap.size W u1) := on2 hH.below hb1
 refine ⟨_, rfl, hK.out _ _ (hH.on hb1) (fun hH => ?_)⟩
 clear hK K
 try go_frame
 refine tp 4 ?_
 try go_frame
 refine tp 5 ?_
 try go_frame
 refine wpAnyH_done (by kernel_rfl) ?_ _
 refine NoPanic.normal ?_
 go_wp2_with fail
 go_ret
 exact ⟨retb (by simp only [sGt, sLt, sEq]), HB1.out⟩
theorem ent_placeNode : ∀ args w, (callFunc 209 args).run prog w = .ok (.enter 209 args) w := Go.Proofs.enters_of func209 (by kernel_rfl) rfl
theorem findNode_calls (a : Option Addr) (n cap : Nat) (A : Where) (L : List NodeD) (s : ByteArray) (w : World) (hL : SlAt RNode 9 112 A w a n cap L) : Calls prog 199 #[.iface 137 (.agg #[]), .slice a n cap, .string s] w fun e w' => ((∃ i : Nat, i < L.length ∧ sEq (L.getD i default).1 s = true ∧ (∀ j, j < i → sEq (L.getD j default).1 s = false) ∧ e = .returned (.int .i64 i)) ∨ ((∀ j, j < L.length → sEq (L.getD j default).1 s = false) ∧ e = .returned (.int .i64 (-1)))) ∧ Below w.heap.size w w' := by
 have hb0 : Below w.heap.size w ((w.alloc (.cells #[.iface 137 (.agg #[])] 139)).alloc (.cells #[.string s] 9)) := by go_grown
 have hI := IndexNode_calls a n cap A L _ (hL.on RNode.firm hb0) (fun x => sEq x.1 s) 206 #[.pointer (some ⟨w.heap.size, 0, none⟩), .pointer (some ⟨w.heap.size + 1, 0, none⟩)] ent_findNode (find1Node s w.heap.size (w.heap.size + 1) _ (by simp; omega) (by simp) (by simp [go_sem]) (by simp [go_sem]))
 go_enter func199, ntmps199
 go_wp2_with fail
 refine hI.mono ?_
 rintro e w1 ⟨⟨i, hi, hy, hn, rfl⟩ | ⟨hn, rfl⟩, hb⟩
 ·
  have HA : Hid (∃ i' : Nat, i' < L.length ∧ sEq (L.getD i' default).1 s = true ∧ (∀ j, j < i' → sEq (L.getD j default).1 s = false) ∧ Ending.returned (.int .i64 i) = .returned (.int .i64 i')) := ⟨i, hi, hy, hn, rfl⟩
  clear hy hn hI hL
  go_wp2_with fail
  go_ret
  exact ⟨.inl HA.out, on2 hb0 hb⟩
 ·
  have HA : Hid (∀ j, j < L.length → sEq (L.getD j default).1 s = false) := hn
  clear hn hI hL
  go_wp2_with fail
  go_ret
  exact ⟨.inr ⟨HA.out, rfl⟩, on2 hb0 hb⟩
theorem placeNode_calls (a : Option Addr) (n cap : Nat) (A : Where) (L : List NodeD) (s : ByteArray) (w : World) (hL : SlAt RNode 9 112 A w a n cap L) : Calls prog 201 #[.iface 137 (.agg #[]), .slice a n cap, .string s] w fun e w' => (∃ i : Nat, i ≤ L.length ∧ (∀ j, j < i → sGt (L.getD j default).1 s = false) ∧ (i < L.length → sGt (L.getD i default).1 s = true) ∧ e = .returned (.int .i64 i)) ∧ Below w.heap.size w w' := by
 have hb0 : Below w.heap.size w ((w.alloc (.cells #[.iface 137 (.agg #[])] 139)).alloc (.cells #[.string s] 9)) := by go_grown
 have hI := IndexNode_calls a n cap A L _ (hL.on RNode.firm hb0) (fun x => sGt x.1 s) 209 #[.pointer (some ⟨w.heap.size, 0, none⟩), .pointer (some ⟨w.heap.size + 1, 0, none⟩)] ent_placeNode (place1Node s w.heap.size (w.heap.size + 1) _ (by simp; omega) (by simp) (by simp [go_sem]) (by simp [go_sem]))
 have HN : Hid (L.length = n) := hL.1
 go_enter func201, ntmps201
 go_wp2_with fail
 refine hI.mono ?_
 rintro e w1 ⟨⟨i, hi, hy, hn, rfl⟩ | ⟨hn, rfl⟩, hb⟩
 ·
  have HA : Hid (∃ i' : Nat, i' ≤ L.length ∧ (∀ j, j < i' → sGt (L.getD j default).1 s = false) ∧ (i' < L.length → sGt (L.getD i' default).1 s = true) ∧ Ending.returned (.int .i64 i) = .returned (.int .i64 i')) := ⟨i, Nat.le_of_lt hi, hn, fun _ => hy, rfl⟩
  clear hy hn hI hL
  go_wp2_with fail
  go_ret
  exact ⟨HA.out, on2 hb0 hb⟩
 ·
  have HA : Hid (∃ i' : Nat, i' ≤ L.length ∧ (∀ j, j < i' → sGt (L.getD j default).1 s = false) ∧ (i' < L.length → sGt (L.getD i' default).1 s = true) ∧ Ending.returned (.int .i64 n) = .returned (.int .i64 i')) := ⟨n, Nat.le_of_eq HN.out.symm, fun j hj => hn j (by rw [HN.out]; exact hj), fun h => by rw [HN.out] at h; omega, rfl⟩
  clear hn hI hL
  go_wp2_with fail
  go_ret
  exact ⟨HA.out, on2 hb0 hb⟩
end Go.Proofs.YtopimokncibdgaaGreat

