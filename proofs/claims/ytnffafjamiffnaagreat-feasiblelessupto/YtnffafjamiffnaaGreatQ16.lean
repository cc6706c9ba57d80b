/- Functions of the program, each walked under the conditions that its theorem names. -/
import Derived.Test.YtnffafjamiffnaaGreatQ00
import Derived.Test.YtnffafjamiffnaaGreatQ13
set_option linter.unusedSimpArgs false
set_option maxRecDepth 100000
set_option maxHeartbeats 32000000
namespace Go.Proofs.YtnffafjamiffnaaGreat
open Go.RowKit
abbrev VisitD := PodD × InfoD × ResD × ResD
def RVisit : Rep VisitD := RPair RPod (RPair RInfo (RPair RRes RRes))
theorem RVisit.firm : Firm RVisit 37 := Firm.pair RPod.firm (Firm.pair RInfo.firm (Firm.pair RRes.firm RRes.firm))
theorem RVisit.out {A : Where} {w : World} {cs : List Value} {y : PodD} {x : InfoD} {wa wb wc fa fb fc : Int} (h : RVisit A w cs (y, x, (wa, wb, wc), (fa, fb, fc))) : ∃ ds is, cs = ds ++ (is ++ [.int .i64 wa, .int .i64 wb, .int .i64 wc, .int .i64 fa, .int .i64 fb, .int .i64 fc]) /\ RPod A w ds y /\ RInfo A w is x := by
 obtain ⟨ds, r, rfl, hp, is, r2, rfl, hi, r3, r4, rfl, h3, h4⟩ := h
 have e3 := RRes.out h3
 have e4 := RRes.out h4
 subst e3 e4
 exact ⟨ds, is, rfl, hp, hi⟩
theorem RVisit.mk {A : Where} {w : World} {ds is : List Value} {y : PodD} {x : InfoD} {wa wb wc fa fb fc : Int} (hp : RPod A w ds y) (hi : RInfo A w is x) : RVisit A w (ds ++ (is ++ [.int .i64 wa, .int .i64 wb, .int .i64 wc, .int .i64 fa, .int .i64 fb, .int .i64 fc])) (y, x, (wa, wb, wc), (fa, fb, fc)) :=
 ⟨ds, _, rfl, hp, is, _, rfl, hi, [.int .i64 wa, .int .i64 wb, .int .i64 wc], [.int .i64 fa, .int .i64 fb, .int .i64 fc], rfl, ⟨[.int .i64 wa], _, rfl, rfl, [.int .i64 wb], _, rfl, rfl, rfl⟩, ⟨[.int .i64 fa], _, rfl, rfl, [.int .i64 fb], _, rfl, rfl, rfl⟩⟩
theorem zBx : (Tryz.prog.info? 205).map (·.size) = some 37 := by kernel_rfl
theorem off_calls (cs : List Value) (A : Where) (v : VisitD) (w : World) (h : Hid (RVisit A w cs v)) : Calls Tryz.prog 152 #[.agg cs.toArray] w fun e w' => e = .returned (.bool (offB v.2.1)) /\ Below w.heap.size w w' := by
 obtain ⟨y, x, ⟨wa, wb, wc⟩, ⟨fa, fb, fc⟩⟩ := v
 obtain ⟨ds, is, rfl, hp, hi⟩ := h.out.out
 obtain ⟨g2, g6, g7, g8, g9, g10, g11, g12, g13, rfl, _, p2, p6, p7, _⟩ := hp.out
 obtain ⟨h1, h2, h9, h13, h14, rfl, _, i1, i2, i9, _⟩ := hi.out
 simp only [List.cons_append, List.nil_append]
 have hE : Hid (offB x = x.1.2.2.2.1) := rfl
 rw [hE.out]
 clear h hp hi
 go_enter Tryz.func152, Tryz.ntmps152
 go_wp2
 go_ret
 exact ⟨rfl, by go_grown⟩
theorem zE4 (cs : List Value) (A : Where) (v : VisitD) (w : World) (h : Hid (RVisit A w cs v)) : Calls Tryz.prog 153 #[.agg cs.toArray] w fun e w' => e = .returned (.bool (kepB v.1 v.2.1)) /\ Below w.heap.size w w' := by
 obtain ⟨y, x, ⟨wa, wb, wc⟩, ⟨fa, fb, fc⟩⟩ := v
 obtain ⟨ds, is, rfl, hp, hi⟩ := h.out.out
 obtain ⟨g2, g6, g7, g8, g9, g10, g11, g12, g13, rfl, _, p2, p6, p7, _⟩ := hp.out
 obtain ⟨h1, h2, h9, h13, h14, rfl, _, i1, i2, i9, _⟩ := hi.out
 simp only [List.cons_append, List.nil_append]
 have hb0 : Below w.heap.size w (w.alloc (.cells #[.string y.1, .int .i64 y.2.1, .slice g2.1 g2.2.1 g2.2.2, .int .i64 y.2.2.2.1.1, .int .i64 y.2.2.2.1.2.1, .int .i64 y.2.2.2.1.2.2, .slice g6.1 g6.2.1 g6.2.2, .slice g7.1 g7.2.1 g7.2.2, .slice g8.1 g8.2.1 g8.2.2, .slice g9.1 g9.2.1 g9.2.2, .slice g10.1 g10.2.1 g10.2.2, .slice g11.1 g11.2.1 g11.2.2, .slice g12.1 g12.2.1 g12.2.2, .slice g13.1 g13.2.1 g13.2.2, .string y.2.2.2.2.2.2.2.2.2.2.2.2.1, .string y.2.2.2.2.2.2.2.2.2.2.2.2.2, .string x.1.1, .slice h1.1 h1.2.1 h1.2.2, .slice h2.1 h2.2.1 h2.2.2, .bool x.1.2.2.2.1, .int .i64 x.1.2.2.2.2.1.1, .int .i64 x.1.2.2.2.2.1.2.1, .int .i64 x.1.2.2.2.2.1.2.2, .int .i64 x.1.2.2.2.2.2.1, .int .i64 x.1.2.2.2.2.2.2, .slice h9.1 h9.2.1 h9.2.2, .int .i64 x.2.2.1.1, .int .i64 x.2.2.1.2.1, .int .i64 x.2.2.1.2.2, .slice h13.1 h13.2.1 h13.2.2, .slice h14.1 h14.2.1 h14.2.2, .int .i64 wa, .int .i64 wb, .int .i64 wc, .int .i64 fa, .int .i64 fb, .int .i64 fc] 205)) := by go_grown
 have hC := Kept_sl h2.1 h2.2.1 h2.2.2 A x.1.2.2.1 g6.1 g6.2.1 g6.2.2 A (pBears y) (w.alloc (.cells #[.string y.1, .int .i64 y.2.1, .slice g2.1 g2.2.1 g2.2.2, .int .i64 y.2.2.2.1.1, .int .i64 y.2.2.2.1.2.1, .int .i64 y.2.2.2.1.2.2, .slice g6.1 g6.2.1 g6.2.2, .slice g7.1 g7.2.1 g7.2.2, .slice g8.1 g8.2.1 g8.2.2, .slice g9.1 g9.2.1 g9.2.2, .slice g10.1 g10.2.1 g10.2.2, .slice g11.1 g11.2.1 g11.2.2, .slice g12.1 g12.2.1 g12.2.2, .slice g13.1 g13.2.1 g13.2.2, .string y.2.2.2.2.2.2.2.2.2.2.2.2.1, .string y.2.2.2.2.2.2.2.2.2.2.2.2.2, .string x.1.1, .slice h1.1 h1.2.1 h1.2.2, .slice h2.1 h2.2.1 h2.2.2, .bool x.1.2.2.2.1, .int .i64 x.1.2.2.2.2.1.1, .int .i64 x.1.2.2.2.2.1.2.1, .int .i64 x.1.2.2.2.2.1.2.2, .int .i64 x.1.2.2.2.2.2.1, .int .i64 x.1.2.2.2.2.2.2, .slice h9.1 h9.2.1 h9.2.2, .int .i64 x.2.2.1.1, .int .i64 x.2.2.1.2.1, .int .i64 x.2.2.1.2.2, .slice h13.1 h13.2.1 h13.2.2, .slice h14.1 h14.2.1 h14.2.2, .int .i64 wa, .int .i64 wb, .int .i64 wc, .int .i64 fa, .int .i64 fb, .int .i64 fc] 205)) (i2.on RTaint.firm hb0) (p6.on RBear.firm hb0)
 have hE : Hid (kepB y x = (keptT x.1.2.2.1 (pBears y)).2) := rfl
 rw [hE.out]
 generalize keptT x.1.2.2.1 (pBears y) = kt at hC
 obtain ⟨⟨k1, k2, k3⟩, kb⟩ := kt
 clear h hp hi hE p2 p6 p7 i1 i2 i9
 go_enter Tryz.func153, Tryz.ntmps153
 go_wp2_with fail
 refine hC.mono ?_
 rintro e w2 ⟨rfl, hb2⟩
 have hb := on2 hb0 hb2
 clear hC hb2 hb0
 go_wp2_with fail
 go_ret
 exact ⟨rfl, on2 hb (by go_grown)⟩
theorem zDX (cs : List Value) (A : Where) (v : VisitD) (w : World) (h : Hid (RVisit A w cs v)) : Calls Tryz.prog 154 #[.agg cs.toArray] w fun e w' => e = .returned (.bool (askB v.1 v.2.1)) /\ Below w.heap.size w w' := by
 obtain ⟨y, x, ⟨wa, wb, wc⟩, ⟨fa, fb, fc⟩⟩ := v
 obtain ⟨ds, is, rfl, hp, hi⟩ := h.out.out
 obtain ⟨g2, g6, g7, g8, g9, g10, g11, g12, g13, rfl, _, p2, p6, p7, _⟩ := hp.out
 obtain ⟨h1, h2, h9, h13, h14, rfl, _, i1, i2, i9, _⟩ := hi.out
 simp only [List.cons_append, List.nil_append]
 have hb0 : Below w.heap.size w (w.alloc (.cells #[.string y.1, .int .i64 y.2.1, .slice g2.1 g2.2.1 g2.2.2, .int .i64 y.2.2.2.1.1, .int .i64 y.2.2.2.1.2.1, .int .i64 y.2.2.2.1.2.2, .slice g6.1 g6.2.1 g6.2.2, .slice g7.1 g7.2.1 g7.2.2, .slice g8.1 g8.2.1 g8.2.2, .slice g9.1 g9.2.1 g9.2.2, .slice g10.1 g10.2.1 g10.2.2, .slice g11.1 g11.2.1 g11.2.2, .slice g12.1 g12.2.1 g12.2.2, .slice g13.1 g13.2.1 g13.2.2, .string y.2.2.2.2.2.2.2.2.2.2.2.2.1, .string y.2.2.2.2.2.2.2.2.2.2.2.2.2, .string x.1.1, .slice h1.1 h1.2.1 h1.2.2, .slice h2.1 h2.2.1 h2.2.2, .bool x.1.2.2.2.1, .int .i64 x.1.2.2.2.2.1.1, .int .i64 x.1.2.2.2.2.1.2.1, .int .i64 x.1.2.2.2.2.1.2.2, .int .i64 x.1.2.2.2.2.2.1, .int .i64 x.1.2.2.2.2.2.2, .slice h9.1 h9.2.1 h9.2.2, .int .i64 x.2.2.1.1, .int .i64 x.2.2.1.2.1, .int .i64 x.2.2.1.2.2, .slice h13.1 h13.2.1 h13.2.2, .slice h14.1 h14.2.1 h14.2.2, .int .i64 wa, .int .i64 wb, .int .i64 wc, .int .i64 fa, .int .i64 fb, .int .i64 fc] 205)) := by go_grown
 have hC := zB3 h1.1 h1.2.1 h1.2.2 A x.1.2.1 g7.1 g7.2.1 g7.2.2 A (pAsks y) (w.alloc (.cells #[.string y.1, .int .i64 y.2.1, .slice g2.1 g2.2.1 g2.2.2, .int .i64 y.2.2.2.1.1, .int .i64 y.2.2.2.1.2.1, .int .i64 y.2.2.2.1.2.2, .slice g6.1 g6.2.1 g6.2.2, .slice g7.1 g7.2.1 g7.2.2, .slice g8.1 g8.2.1 g8.2.2, .slice g9.1 g9.2.1 g9.2.2, .slice g10.1 g10.2.1 g10.2.2, .slice g11.1 g11.2.1 g11.2.2, .slice g12.1 g12.2.1 g12.2.2, .slice g13.1 g13.2.1 g13.2.2, .string y.2.2.2.2.2.2.2.2.2.2.2.2.1, .string y.2.2.2.2.2.2.2.2.2.2.2.2.2, .string x.1.1, .slice h1.1 h1.2.1 h1.2.2, .slice h2.1 h2.2.1 h2.2.2, .bool x.1.2.2.2.1, .int .i64 x.1.2.2.2.2.1.1, .int .i64 x.1.2.2.2.2.1.2.1, .int .i64 x.1.2.2.2.2.1.2.2, .int .i64 x.1.2.2.2.2.2.1, .int .i64 x.1.2.2.2.2.2.2, .slice h9.1 h9.2.1 h9.2.2, .int .i64 x.2.2.1.1, .int .i64 x.2.2.1.2.1, .int .i64 x.2.2.1.2.2, .slice h13.1 h13.2.1 h13.2.2, .slice h14.1 h14.2.1 h14.2.2, .int .i64 wa, .int .i64 wb, .int .i64 wc, .int .i64 fa, .int .i64 fb, .int .i64 fc] 205)) (i1.on RLabel.firm hb0) (p7.on RReq.firm hb0)
 have hE : Hid (askB y x = !(matchL x.1.2.1 (pAsks y))) := rfl
 rw [hE.out]
 generalize matchL x.1.2.1 (pAsks y) = kt at hC
 clear h hp hi hE p2 p6 p7 i1 i2 i9
 go_enter Tryz.func154, Tryz.ntmps154
 go_wp2_with fail
 refine hC.mono ?_
 rintro e w2 ⟨rfl, hb2⟩
 have hb := on2 hb0 hb2
 clear hC hb2 hb0
 go_wp2_with fail
 go_ret
 exact ⟨rfl, hb⟩
theorem zEB (cs : List Value) (A : Where) (v : VisitD) (w : World) (h : Hid (RVisit A w cs v)) : Calls Tryz.prog 155 #[.agg cs.toArray] w fun e w' => e = .returned (.bool (clashP v.2.1 v.1)) /\ Below w.heap.size w w' := by
 obtain ⟨y, x, ⟨wa, wb, wc⟩, ⟨fa, fb, fc⟩⟩ := v
 obtain ⟨ds, is, rfl, hp, hi⟩ := h.out.out
 obtain ⟨g2, g6, g7, g8, g9, g10, g11, g12, g13, rfl, _, p2, p6, p7, _⟩ := hp.out
 obtain ⟨h1, h2, h9, h13, h14, rfl, _, i1, i2, i9, _⟩ := hi.out
 simp only [List.cons_append, List.nil_append]
 have hb0 : Below w.heap.size w (w.alloc (.cells #[.string y.1, .int .i64 y.2.1, .slice g2.1 g2.2.1 g2.2.2, .int .i64 y.2.2.2.1.1, .int .i64 y.2.2.2.1.2.1, .int .i64 y.2.2.2.1.2.2, .slice g6.1 g6.2.1 g6.2.2, .slice g7.1 g7.2.1 g7.2.2, .slice g8.1 g8.2.1 g8.2.2, .slice g9.1 g9.2.1 g9.2.2, .slice g10.1 g10.2.1 g10.2.2, .slice g11.1 g11.2.1 g11.2.2, .slice g12.1 g12.2.1 g12.2.2, .slice g13.1 g13.2.1 g13.2.2, .string y.2.2.2.2.2.2.2.2.2.2.2.2.1, .string y.2.2.2.2.2.2.2.2.2.2.2.2.2, .string x.1.1, .slice h1.1 h1.2.1 h1.2.2, .slice h2.1 h2.2.1 h2.2.2, .bool x.1.2.2.2.1, .int .i64 x.1.2.2.2.2.1.1, .int .i64 x.1.2.2.2.2.1.2.1, .int .i64 x.1.2.2.2.2.1.2.2, .int .i64 x.1.2.2.2.2.2.1, .int .i64 x.1.2.2.2.2.2.2, .slice h9.1 h9.2.1 h9.2.2, .int .i64 x.2.2.1.1, .int .i64 x.2.2.1.2.1, .int .i64 x.2.2.1.2.2, .slice h13.1 h13.2.1 h13.2.2, .slice h14.1 h14.2.1 h14.2.2, .int .i64 wa, .int .i64 wb, .int .i64 wc, .int .i64 fa, .int .i64 fb, .int .i64 fc] 205)) := by go_grown
 have hC := zGM [.string x.1.1, .slice h1.1 h1.2.1 h1.2.2, .slice h2.1 h2.2.1 h2.2.2, .bool x.1.2.2.2.1, .int .i64 x.1.2.2.2.2.1.1, .int .i64 x.1.2.2.2.2.1.2.1, .int .i64 x.1.2.2.2.2.1.2.2, .int .i64 x.1.2.2.2.2.2.1, .int .i64 x.1.2.2.2.2.2.2, .slice h9.1 h9.2.1 h9.2.2, .int .i64 x.2.2.1.1, .int .i64 x.2.2.1.2.1, .int .i64 x.2.2.1.2.2, .slice h13.1 h13.2.1 h13.2.2, .slice h14.1 h14.2.1 h14.2.2] [.string y.1, .int .i64 y.2.1, .slice g2.1 g2.2.1 g2.2.2, .int .i64 y.2.2.2.1.1, .int .i64 y.2.2.2.1.2.1, .int .i64 y.2.2.2.1.2.2, .slice g6.1 g6.2.1 g6.2.2, .slice g7.1 g7.2.1 g7.2.2, .slice g8.1 g8.2.1 g8.2.2, .slice g9.1 g9.2.1 g9.2.2, .slice g10.1 g10.2.1 g10.2.2, .slice g11.1 g11.2.1 g11.2.2, .slice g12.1 g12.2.1 g12.2.2, .slice g13.1 g13.2.1 g13.2.2, .string y.2.2.2.2.2.2.2.2.2.2.2.2.1, .string y.2.2.2.2.2.2.2.2.2.2.2.2.2] A A x y (w.alloc (.cells #[.string y.1, .int .i64 y.2.1, .slice g2.1 g2.2.1 g2.2.2, .int .i64 y.2.2.2.1.1, .int .i64 y.2.2.2.1.2.1, .int .i64 y.2.2.2.1.2.2, .slice g6.1 g6.2.1 g6.2.2, .slice g7.1 g7.2.1 g7.2.2, .slice g8.1 g8.2.1 g8.2.2, .slice g9.1 g9.2.1 g9.2.2, .slice g10.1 g10.2.1 g10.2.2, .slice g11.1 g11.2.1 g11.2.2, .slice g12.1 g12.2.1 g12.2.2, .slice g13.1 g13.2.1 g13.2.2, .string y.2.2.2.2.2.2.2.2.2.2.2.2.1, .string y.2.2.2.2.2.2.2.2.2.2.2.2.2, .string x.1.1, .slice h1.1 h1.2.1 h1.2.2, .slice h2.1 h2.2.1 h2.2.2, .bool x.1.2.2.2.1, .int .i64 x.1.2.2.2.2.1.1, .int .i64 x.1.2.2.2.2.1.2.1, .int .i64 x.1.2.2.2.2.1.2.2, .int .i64 x.1.2.2.2.2.2.1, .int .i64 x.1.2.2.2.2.2.2, .slice h9.1 h9.2.1 h9.2.2, .int .i64 x.2.2.1.1, .int .i64 x.2.2.1.2.1, .int .i64 x.2.2.1.2.2, .slice h13.1 h13.2.1 h13.2.2, .slice h14.1 h14.2.1 h14.2.2, .int .i64 wa, .int .i64 wb, .int .i64 wc, .int .i64 fa, .int .i64 fb, .int .i64 fc] 205)) (RInfo.firm.kept hi (Kept.below hb0)) (RPod.firm.kept hp (Kept.below hb0))
 generalize clashP x y = kt at hC
 clear h hp hi p2 p6 p7 i1 i2 i9
 go_enter Tryz.func155, Tryz.ntmps155
 go_wp2_with fail
 refine hC.mono ?_
 rintro e w2 ⟨rfl, hb2⟩
 have hb := on2 hb0 hb2
 clear hC hb2 hb0
 go_wp2_with fail
 go_ret
 exact ⟨rfl, hb⟩
theorem zHZ (cs : List Value) (A : Where) (v : VisitD) (w : World) (h : Hid (RVisit A w cs v)) : Calls Tryz.prog 156 #[.agg cs.toArray] w fun e w' => e = .returned (.bool (cntB v.2.1)) /\ Below w.heap.size w w' := by
 obtain ⟨y, x, ⟨wa, wb, wc⟩, ⟨fa, fb, fc⟩⟩ := v
 obtain ⟨ds, is, rfl, hp, hi⟩ := h.out.out
 obtain ⟨g2, g6, g7, g8, g9, g10, g11, g12, g13, rfl, _, p2, p6, p7, _⟩ := hp.out
 obtain ⟨h1, h2, h9, h13, h14, rfl, _, i1, i2, i9, _⟩ := hi.out
 simp only [List.cons_append, List.nil_append]
 have hE : Hid (cntB x = decide (x.1.2.2.2.2.2.1 <= (h9.2.1 : Int))) := by rw [Hid, cntB, i9.1]
 rw [hE.out]
 clear h hp hi p2 p6 p7 i1 i2 i9 hE
 go_enter Tryz.func156, Tryz.ntmps156
 go_wp2
 go_ret
 exact ⟨rfl, by go_grown⟩
theorem zDP (cs : List Value) (A : Where) (v : VisitD) (w : World) (h : Hid (RVisit A w cs v)) : Calls Tryz.prog 157 #[.agg cs.toArray] w fun e w' => e = .returned (.bool (decide (v.2.2.2.1 < v.2.2.1.1))) /\ Below w.heap.size w w' := by
 obtain ⟨y, x, ⟨wa, wb, wc⟩, ⟨fa, fb, fc⟩⟩ := v
 obtain ⟨ds, is, rfl, hp, hi⟩ := h.out.out
 obtain ⟨g2, g6, g7, g8, g9, g10, g11, g12, g13, rfl, _, p2, p6, p7, _⟩ := hp.out
 obtain ⟨h1, h2, h9, h13, h14, rfl, _, i1, i2, i9, _⟩ := hi.out
 simp only [List.cons_append, List.nil_append]
 clear h hp hi p2 p6 p7 i1 i2 i9
 go_enter Tryz.func157, Tryz.ntmps157
 go_wp2
 go_ret
 exact ⟨rfl, by go_grown⟩
theorem zDN (cs : List Value) (A : Where) (v : VisitD) (w : World) (h : Hid (RVisit A w cs v)) : Calls Tryz.prog 158 #[.agg cs.toArray] w fun e w' => e = .returned (.bool (decide (v.2.2.2.2.1 < v.2.2.1.2.1))) /\ Below w.heap.size w w' := by
 obtain ⟨y, x, ⟨wa, wb, wc⟩, ⟨fa, fb, fc⟩⟩ := v
 obtain ⟨ds, is, rfl, hp, hi⟩ := h.out.out
 obtain ⟨g2, g6, g7, g8, g9, g10, g11, g12, g13, rfl, _, p2, p6, p7, _⟩ := hp.out
 obtain ⟨h1, h2, h9, h13, h14, rfl, _, i1, i2, i9, _⟩ := hi.out
 simp only [List.cons_append, List.nil_append]
 clear h hp hi p2 p6 p7 i1 i2 i9
 go_enter Tryz.func158, Tryz.ntmps158
 go_wp2
 go_ret
 exact ⟨rfl, by go_grown⟩
theorem zCX (cs : List Value) (A : Where) (v : VisitD) (w : World) (h : Hid (RVisit A w cs v)) : Calls Tryz.prog 159 #[.agg cs.toArray] w fun e w' => e = .returned (.bool (decide (v.2.2.2.2.2 < v.2.2.1.2.2))) /\ Below w.heap.size w w' := by
 obtain ⟨y, x, ⟨wa, wb, wc⟩, ⟨fa, fb, fc⟩⟩ := v
 obtain ⟨ds, is, rfl, hp, hi⟩ := h.out.out
 obtain ⟨g2, g6, g7, g8, g9, g10, g11, g12, g13, rfl, _, p2, p6, p7, _⟩ := hp.out
 obtain ⟨h1, h2, h9, h13, h14, rfl, _, i1, i2, i9, _⟩ := hi.out
 simp only [List.cons_append, List.nil_append]
 clear h hp hi p2 p6 p7 i1 i2 i9
 go_enter Tryz.func159, Tryz.ntmps159
 go_wp2
 go_ret
 exact ⟨rfl, by go_grown⟩
end Go.Proofs.YtnffafjamiffnaaGreat
namespace Go.Proofs.YtnffafjamiffnaaGreat
open Go.RowKit Go.Maps Go.Sort Go.Shelf
theorem sorts9 (m : Nat) : AnyZ.SortsIn Tryz.prog Tryz.laysSorted_ren Fence.wide m :=
 ⟨fun blk off cap ss W hH hblk hsz => callsIn_wide.2 (AnyM.slices_Sort_string Tryz.laysSort blk off cap ss W hH hblk hsz),
  fun p cap W => callsIn_wide.2 (AnyM.slices_Sort_string_none Tryz.laysSort p cap W)⟩
theorem zFv (mb : Option Nat) (W : World) : Calls Tryz.prog 237 #[.map mb] W fun e w' => e = .returned (.func (.func 247) #[] #[.pointer (some ⟨W.heap.size, 0, none⟩)]) /\ w' = W.alloc (.cells #[.map mb] 165) :=
 (callsIn_wide (n := 5)).1 (AnyZ.keys_in Tryz.laysKeys Fence.wide 5 trivial rfl mb W)
theorem zEo {w : World} {mb n : Nat} {f : ByteArray -> Nat} {q : ByteArray -> Bool} (h : MpAt w mb n f q) (hn : n * 16 <= 140737488355328) {M : List ByteArray} (hM : Srt9 M) (hq : ∀ x, x ∈ M ↔ q x = true) (hs : ∀ s ∈ M, s.size <= 140737488355328) :
  Calls Tryz.prog 236 #[.func (.func 247) #[] #[.pointer (some ⟨w.heap.size, 0, none⟩)]] (w.alloc (.cells #[.map (some mb)] 165)) fun e w' => ∃ v, e = .returned v /\ Row RStr 1 (fun _ => False) w w' 9 v M := by
 obtain ⟨D, hown, hle, hsort⟩ := h.keys
 have hbl := hown.lt
 have hseq : SeqGives Fence.wide 2 Tryz.prog 247 #[.pointer (some ⟨w.heap.size, 0, none⟩)] encStr (fun ss => ss.Perm (strKeys D)) (Maps.size D) (w.alloc (.cells #[.map (some mb)] 165)) :=
  AnyZ.keys_gives (ρ := Tryz.laysKeys_ren) { Tryz.laysKeys with } Fence.wide _ trivial rfl (by omega) w.heap.size mb n D _ (by simp) (by simp) (by
   obtain ⟨es, clock, hb, Ft, hs, hD⟩ := hown
   exact ⟨es, clock, (Below.heap_alloc _ _ mb hbl).trans hb, Ft, hs, hD⟩)
 have cS := AnyZ.sorted_in Tryz.laysSorted Fence.wide 5 trivial trivial trivial trivial rfl (by omega) (sorts9 _) (enters_of Tryz.func97 (by kernel_rfl) rfl) 247 #[.pointer (some ⟨w.heap.size, 0, none⟩)] trivial (enters_of Tryz.func247 (by kernel_rfl) rfl) _ (Maps.size D) (by have := zBg; omega) (by omega) _ hseq
 change CallsIn _ _ Tryz.prog 236 _ _ _ at cS
 refine ((callsIn_wide (n := 5)).1 cS).mono ?_
 rintro e w' ⟨v, ss, rfl, hS, hrow, _, hb⟩
 refine ⟨v, rfl, M.map Value.string, ⟨((Below.refl _ w).alloc (Nat.le_refl _) _).trans (hb.mono (by simp)), ?_⟩, zFm _ _ hs⟩
 have hlen : ss.length = M.length := by
  have h1 := congrArg List.length (hsort M ss hM hq hS)
  rw [List.length_mergeSort, List.length_map] at h1
  exact h1
 rw [hsort M ss hM hq hS, enc_map9, hlen] at hrow
 exact Go.Joins.ownsRow_le hrow (by simp)
theorem sorts10 (m : Nat) : AnyZI.SortsIn Tryz.prog Tryz.laysSortedV_ren Fence.wide m :=
 ⟨fun blk off cap ss W hH hblk hsz => callsIn_wide.2 (AnyM.slices_Sort_int Tryz.laysSortV blk off cap ss W hH hblk hsz),
  fun p cap W => callsIn_wide.2 (AnyM.slices_Sort_int_none Tryz.laysSortV p cap W)⟩
theorem zCw (mb : Option Nat) (W : World) : Calls Tryz.prog 201 #[.map mb] W fun e w' => e = .returned (.func (.func 219) #[] #[.pointer (some ⟨W.heap.size, 0, none⟩)]) /\ w' = W.alloc (.cells #[.map mb] 165) :=
 (callsIn_wide (n := 5)).1 (AnyY.values_in Tryz.laysValues Fence.wide 5 trivial rfl mb W)
theorem zEh (u : World) (A : Where) : ∀ L : List Int, Chunks RInt 1 A u (L.map (fun c => Value.int .i64 c)) L := fun L => ⟨by simp, fun i hi => ⟨[.int .i64 (L.getD i default)], rfl, fun j hj => by
 obtain rfl : j = 0 := by omega
 rw [Nat.mul_one, Nat.add_zero, List.getElem?_map, List.getD_eq_getElem?_getD, List.getElem?_eq_getElem hi]; rfl⟩⟩
abbrev firstsZ (N : List ByteArray) : List Int := (firstsI N).map (fun k : Nat => (k : Int))
def SrtOut (w : World) (N : List ByteArray) (e : Ending) (w' : World) : Prop := ∃ v, e = .returned v /\ Row RInt 1 (fun _ => False) w w' 3 v (firstsZ N)
theorem zBs {w : World} {mb : Nat} {N : List ByteArray} (h : NmAt w mb N) (hn : N.length * 8 <= 140737488355328) :
  Calls Tryz.prog 200 #[.func (.func 219) #[] #[.pointer (some ⟨w.heap.size, 0, none⟩)]] (w.alloc (.cells #[.map (some mb)] 165)) (SrtOut w N) := by
 obtain ⟨D, hown, hsize, hsort⟩ := h.values
 have hbl := hown.lt
 have hle := zB4 N
 have hseq : SeqGives Fence.wide 2 Tryz.prog 219 #[.pointer (some ⟨w.heap.size, 0, none⟩)] encZ (fun xs => ∃ ps, AnyY.AllOf D ps /\ xs = ps.map (·.2)) (Maps.size D) (w.alloc (.cells #[.map (some mb)] 165)) :=
  (AnyY.values_stops (ρ := Tryz.laysValues_ren) { Tryz.laysValues with } Fence.wide _ trivial rfl (by omega) w.heap.size mb N.length D _ (by simp) (by simp) (by
   obtain ⟨es, clock, hb, Ft, hs, hD⟩ := hown
   exact ⟨es, clock, (Below.heap_alloc _ _ mb hbl).trans hb, Ft, hs, hD⟩)).gives
 have cS := AnyZI.sorted_in Tryz.laysSortedV Fence.wide 5 trivial trivial trivial trivial rfl (by omega) (sorts10 _) (enters_of Tryz.func99 (by kernel_rfl) rfl) 219 #[.pointer (some ⟨w.heap.size, 0, none⟩)] trivial (enters_of Tryz.func219 (by kernel_rfl) rfl) _ (Maps.size D) (by have := zBg; omega) (by omega) _ hseq
 change CallsIn _ _ Tryz.prog 200 _ _ _ at cS
 refine ((callsIn_wide (n := 5)).1 cS).mono ?_
 rintro e w' ⟨v, ss, rfl, ⟨ps, ⟨hp1, _, hp3⟩, rfl⟩, hrow, _, hb⟩
 have e1 := hsort ps hp1 (fun p hp => hp3 p hp)
 have hlen : (ps.map (·.2)).length = (firstsZ N).length := by
  have := congrArg List.length e1
  rwa [List.length_mergeSort] at this
 refine ⟨v, rfl, (firstsZ N).map (fun c => Value.int .i64 c), ⟨((Below.refl _ w).alloc (Nat.le_refl _) _).trans (hb.mono (by simp)), ?_⟩, zEh _ _ _⟩
 rw [e1, hlen] at hrow
 exact Go.Joins.ownsRow_le hrow (by simp)
end Go.Proofs.YtnffafjamiffnaaGreat
namespace Go.Proofs.YtnffafjamiffnaaGreat
open Go.RowKit Go.Maps
abbrev plC (la : Option Addr) (ln lc : Nat) (ca : Option Addr) (cn cc cm : Nat) (va : Option Addr) (vn vc vm : Nat) (ka : Option Addr) (kn kc km : Nat) (lv pv : Value) : List Value :=
 [.slice la ln lc, .slice ca cn cc, .map (some cm), .slice va vn vc, .map (some vm), .slice ka kn kc, .map (some km), lv, pv]
abbrev Old10 (Wp : World) (X : Nat) (lv0 : Value) : Where := fun b => b < Wp.heap.size /\ b ≠ X /\ lv0.ownBlock ≠ some b
structure PlC (w Wp : World) (X : Nat) (lv0 : Value) (la : Option Addr) (ln lc : Nat) (ca : Option Addr) (cn cc cm : Nat) (va : Option Addr) (vn vc vm : Nat) (ka : Option Addr) (kn kc km : Nat) (NL : List Lab) (CL : List ClaimD) (V : List VolumeD) (K : List ClassD) : Prop where
 bw : Below w.heap.size w Wp
 l : SlAt RLabel 2 32 (fun b => b < w.heap.size) Wp la ln lc NL
 c : SlAt RClaim 4 56 (fun b => b < w.heap.size) Wp ca cn cc CL
 v : SlAt RVolume 5 72 (fun b => b < w.heap.size) Wp va vn vc V
 k : SlAt RClass 2 24 (fun b => b < w.heap.size) Wp ka kn kc K
 mc : NmAt Wp cm (cNs CL) /\ Old10 Wp X lv0 cm
 mv : NmAt Wp vm (vNs V) /\ Old10 Wp X lv0 vm
 ms : NmAt Wp km (K.map Prod.fst) /\ Old10 Wp X lv0 km
 x : w.heap.size <= X /\ X < Wp.heap.size
 g : ∀ b, lv0.ownBlock = some b -> w.heap.size <= b /\ b < Wp.heap.size /\ b ≠ X
 hv : V.length * 80 <= 140737488355328
structure PlS (w Wp : World) (X : Nat) (lv0 : Value) (C : List Value) (NL : List Lab) (V : List VolumeD) (M : Nat) (u : World) (lv pv : Value) (off : List ByteArray) (out : List PickD) : Prop where
 kp : Kept (Old10 Wp X lv0) Wp u
 bw : Below w.heap.size w u
 bx : BoxL u X (C ++ [lv, pv])
 lf : Row RVolume 5 (fun b => b < w.heap.size) w u 79 lv (leftP NL V off)
 lo : lv.ownBlock = lv0.ownBlock
 pk : Row RLabel 2 (fun _ => False) w u 127 pv out
 po : ∀ b, pv.ownBlock = some b -> Wp.heap.size <= b
 ln : out.length + (leftP NL V off).length <= M
 cl : C.length = 7
 gx : ∀ b, lv0.ownBlock = some b -> w.heap.size <= b /\ b < Wp.heap.size /\ b ≠ X
 xx : w.heap.size <= X /\ X < Wp.heap.size
section
variable {α : Type} [Inhabited α] {R : Rep α} {k : Nat}
theorem Row.keptX (hR : Firm R k) {A : Where} {w0 u u' : World} {e : TypeId} {v : Value} {L : List α} (h : Row R k A w0 u e v L) (hb : Below w0.heap.size w0 u') (hk : Kept (fun b => A b \/ v.ownBlock = some b) u u') : Row R k A w0 u' e v L := by
 obtain ⟨xs, h1, h2⟩ := h
 refine ⟨xs, ⟨hb, ?_⟩, h2.kept hR (hk.weak (fun b hb => .inl hb.1))⟩
 obtain ⟨hl, h0 | ⟨g, cap, cur, rfl, hg, hh, r⟩⟩ := h1.2
 ·exact ⟨hl, .inl h0⟩
 ·exact ⟨hl, .inr ⟨g, cap, cur, rfl, hg, (hk.2 g (.inr rfl) (Array.getElem?_eq_some_iff.1 hh).1).trans hh, r⟩⟩
theorem Row.place {A : Where} {w0 u : World} {e : TypeId} {v : Value} {L : List α} (h : Row R k A w0 u e v L) (h0 : 0 < L.length) : ∃ g cap, v = .slice (some ⟨g, 0, none⟩) L.length cap := by
 obtain ⟨xs, h1, _⟩ := h
 obtain ⟨_, ⟨_, h2⟩ | ⟨g, cap, cur, rfl, _⟩⟩ := h1.2
 ·omega
 ·exact ⟨g, cap, rfl⟩
theorem Row.head {A : Where} {w0 u : World} {e : TypeId} {v : Value} {L : List α} (h : Row R k A w0 u e v L) : ∃ a n c, v = .slice a n c := by
 obtain ⟨xs, h1, _⟩ := h
 obtain ⟨_, ⟨rfl, _⟩ | ⟨g, cap, cur, rfl, _⟩⟩ := h1.2
 ·exact ⟨_, _, _, rfl⟩
 ·exact ⟨_, _, _, rfl⟩
end
section
variable {w Wp : World} {X : Nat} {lv0 : Value} {la : Option Addr} {ln lc : Nat} {ca : Option Addr} {cn cc cm : Nat} {va : Option Addr} {vn vc vm : Nat} {ka : Option Addr} {kn kc km : Nat} {NL : List Lab} {CL : List ClaimD} {V : List VolumeD} {K : List ClassD}
theorem PlC.at (h : PlC w Wp X lv0 la ln lc ca cn cc cm va vn vc vm ka kn kc km NL CL V K) {u : World} (hk : Kept (Old10 Wp X lv0) Wp u) :
  SlAt RLabel 2 32 (fun b => b < w.heap.size) u la ln lc NL /\ SlAt RClaim 4 56 (fun b => b < w.heap.size) u ca cn cc CL /\ SlAt RVolume 5 72 (fun b => b < w.heap.size) u va vn vc V /\ SlAt RClass 2 24 (fun b => b < w.heap.size) u ka kn kc K /\ NmAt u cm (cNs CL) /\ NmAt u vm (vNs V) /\ NmAt u km (K.map Prod.fst) := by
 have hk' : Kept (fun b => b < w.heap.size) Wp u := hk.weak (fun b hb => ⟨Nat.lt_of_lt_of_le hb h.bw.size, by have := h.x.1; omega, fun e => by have := (h.g b e).1; omega⟩)
 exact ⟨h.l.kept RLabel.firm hk', h.c.kept RClaim.firm hk', h.v.kept RVolume.firm hk', h.k.kept RClass.firm hk', h.mc.1.kept hk h.mc.2, h.mv.1.kept hk h.mv.2, h.ms.1.kept hk h.ms.2⟩
variable {C : List Value} {u : World} {lv pv : Value} {out : List PickD}
theorem PlS.on {M : Nat} {off : List ByteArray} (h : PlS w Wp X lv0 C NL V M u lv pv off out) {u' : World} (hb : Below u.heap.size u u') : PlS w Wp X lv0 C NL V M u' lv pv off out :=
 ⟨h.kp.trans (Kept.below hb), on2 h.bw hb, h.bx.on hb, h.lf.on RVolume.firm hb, h.lo, h.pk.on RLabel.firm hb, h.po, h.ln, h.cl, h.gx, h.xx⟩
theorem PlS.app {M : Nat} {off : List ByteArray} (h : PlS w Wp X lv0 C NL V M u lv pv off out) {u' : World} {pv' : Value} {p : PickD} (hg : u.grownBy u' pv.ownBlock) (hr : Row RLabel 2 (fun _ => False) w u' 127 pv' (out ++ [p])) (hw : pv'.ownBlock = pv.ownBlock \/ pv'.ownBlock = some u.heap.size) :
  PlS w Wp X lv0 C NL V (M + 1) (u'.setCell ⟨X, 8, none⟩ pv') lv pv' off (out ++ [p]) := by
 have hx := h.xx
 have hWu : Wp.heap.size <= u.heap.size := h.kp.1
 have hpo : ∀ b, pv'.ownBlock = some b -> Wp.heap.size <= b := fun b hb => by
  rcases hw with hw | hw
  ·exact h.po b (hw ▸ hb)
  ·rw [hw] at hb; injection hb with hb; omega
 have bu' : Below w.heap.size w u' := h.bw.grown hg h.bw.size (fun b e => by have := h.po b e; omega)
 refine ⟨(h.kp.trans (Kept.grown hg (fun b e hb => by have := h.po b e; have := hb.1; omega))).trans (Kept.set (p := ⟨X, 8, none⟩) (fun hb => hb.2.1 rfl) _), bu'.setCell (p := ⟨X, 8, none⟩) hx.1 _, ?_, ?_, h.lo, ?_, hpo, by have := h.ln; rw [List.length_append, List.length_singleton]; omega, h.cl, h.gx, h.xx⟩
 ·have h1 : BoxL u' X (C ++ [lv, pv]) := h.bx.kept (A := fun b => b = X) (Kept.grown hg (fun b e hb => by have := h.po b e; omega)) rfl
  have h2 := h1.set 8 pv' (by rw [List.length_append, h.cl]; simp)
  rwa [show (C ++ [lv, pv]).set 8 pv' = C ++ [lv, pv'] by rw [List.set_append_right _ _ (by rw [h.cl]; decide), h.cl]; rfl] at h2
 ·have h1 : Row RVolume 5 (fun b => b < w.heap.size) w u' 79 lv (leftP NL V off) := h.lf.grown RVolume.firm hg (fun b e => ⟨by have := h.po b e; omega, fun e2 => by rw [h.lo] at e2; have := (h.gx b e2).2.1; have := h.po b e; omega, fun hb => by have := h.po b e; omega⟩)
  refine h1.keptX RVolume.firm (bu'.setCell (p := ⟨X, 8, none⟩) hx.1 _) (Kept.set (p := ⟨X, 8, none⟩) (fun hb => ?_) _)
  rcases hb with hb | hb
  ·have : X < w.heap.size := hb; omega
  ·rw [h.lo] at hb; exact (h.gx X hb).2.2 rfl
 ·refine hr.keptX RLabel.firm (bu'.setCell (p := ⟨X, 8, none⟩) hx.1 _) (Kept.set (p := ⟨X, 8, none⟩) (fun hb => ?_) _)
  rcases hb with hb | hb
  ·exact hb
  ·have := hpo X hb; omega
theorem PlS.cut {M : Nat} {off off' : List ByteArray} {g n cap n' : Nat} (h : PlS w Wp X lv0 C NL V (M + 1) u (.slice (some ⟨g, 0, none⟩) n cap) pv off out) {u' : World} (hk : Kept (fun b => b ≠ g) u u') (hr : Row RVolume 5 (fun b => b < w.heap.size) w u' 79 (.slice (some ⟨g, 0, none⟩) n' cap) (leftP NL V off')) (hl : (leftP NL V off').length + 1 = (leftP NL V off).length) :
  PlS w Wp X lv0 C NL V M (u'.setCell ⟨X, 7, none⟩ (.slice (some ⟨g, 0, none⟩) n' cap)) (.slice (some ⟨g, 0, none⟩) n' cap) pv off' out := by
 have hx := h.xx
 have hg0 : lv0.ownBlock = some g := h.lo.symm
 obtain ⟨g1, g2, g3⟩ := h.gx g hg0
 have bu' : Below w.heap.size w u' := hr.below
 refine ⟨(h.kp.trans (hk.weak (fun b hb e => hb.2.2 (by rw [e]; exact hg0)))).trans (Kept.set (p := ⟨X, 7, none⟩) (fun hb => hb.2.1 rfl) _), bu'.setCell (p := ⟨X, 7, none⟩) hx.1 _, ?_, ?_, hg0.symm, ?_, h.po, by have := h.ln; omega, h.cl, h.gx, h.xx⟩
 ·have h1 : BoxL u' X (C ++ [.slice (some ⟨g, 0, none⟩) n cap, pv]) := h.bx.kept hk (fun e => g3 e.symm)
  have h2 := h1.set 7 (.slice (some ⟨g, 0, none⟩) n' cap) (by rw [List.length_append, h.cl]; simp)
  rwa [show (C ++ [.slice (some ⟨g, 0, none⟩) n cap, pv]).set 7 (.slice (some ⟨g, 0, none⟩) n' cap) = C ++ [.slice (some ⟨g, 0, none⟩) n' cap, pv] by rw [List.set_append_right _ _ (by rw [h.cl]; decide), h.cl]; rfl] at h2
 ·refine hr.keptX RVolume.firm (bu'.setCell (p := ⟨X, 7, none⟩) hx.1 _) (Kept.set (p := ⟨X, 7, none⟩) (fun hb => ?_) _)
  rcases hb with hb | hb
  ·have : X < w.heap.size := hb; omega
  ·have : g = X := by simpa [Value.ownBlock] using hb
   exact g3 this
 ·have h1 : Row RLabel 2 (fun _ => False) w u' 127 pv out := h.pk.keptX RLabel.firm bu' (hk.weak (fun b hb e => by
   rcases hb with hb | hb
   ·exact hb
   ·have := h.po b hb; omega))
  refine h1.keptX RLabel.firm (bu'.setCell (p := ⟨X, 7, none⟩) hx.1 _) (Kept.set (p := ⟨X, 7, none⟩) (fun hb => ?_) _)
  rcases hb with hb | hb
  ·exact hb
  ·have := h.po X hb; omega
end
end Go.Proofs.YtnffafjamiffnaaGreat
