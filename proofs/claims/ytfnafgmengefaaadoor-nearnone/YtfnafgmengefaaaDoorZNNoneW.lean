/- A table that no call made refuses all: the calls of it, and the law's walk. Condition: the table of powers of ten is laid as the program's text lays it. -/
import Derived.Test.YtfnafgmengefaaaDoorQ19
namespace Go.Proofs.YtfnafgmengefaaaDoor
open Go.RowKit Go.Maps
set_option linter.unusedSimpArgs false
set_option maxRecDepth 100000

theorem load_w8 {ops : Array Oper} {rest : List Oper} {op : Oper} {a : Act} {w : World} {Q : Exit → Act → World → Prop} (hgd : Region.wanted op (yielded ops a.tmps) = true) (ty : TypeId) (x : Operand) (ho : op.op = .load ty x)
    (b o : Nat) (hx : a.eval x = .pointer (some ⟨b, o, none⟩)) (cs : List Value) (d : TypeDesc) (hc : w.rangeAt b o cs)
    (hu : Tryd.prog.underlying ty = some d) (hd : d.isRow = true) (hi : (Tryd.prog.info? ty).map (·.size) = some cs.length)
    (h : wpList Tryd.prog ops Q rest (a.put op.dst (.agg cs.toArray)) w) : wpList Tryd.prog ops Q (op :: rest) a w :=
  BigFrame.wpList_want hgd (fun _ hK => wp_load_mid ty x ho b o hx cs d hc hu hd hi (hK _ _ h))
/-- A table's variable that nobody made. -/
def NoTab (w : World) (p : Option Addr) : Prop := p = none ∨ ∃ tb zs, p = some ⟨tb, 0, none⟩ ∧ BoxL w tb zs ∧ zs[5]? = some (.map none)
theorem NoTab.on {w w' : World} {p : Option Addr} (h : NoTab w p) (hb : Below w.heap.size w w') : NoTab w' p := by
  rcases h with h | ⟨tb, zs, h1, h2, h3⟩
  · exact .inl h
  · exact .inr ⟨tb, zs, h1, h2.on hb, h3⟩
theorem made_no (w : World) (p : Option Addr) (h : Hid (NoTab w p)) : Calls Tryd.prog 22 #[.pointer p] w fun e w' => e = .returned (.bool false) ∧ w' = w := by
  rcases h.out with rfl | ⟨tb, zs, rfl, h2, h3⟩
  · exact made_nil w
  · exact made_zero w tb (h2.2 5 _ h3).1
theorem noCheck (w : World) (p : Option Addr) (b : Option Addr) (n c : Nat) (h : Hid (NoTab w p)) : Calls Tryd.prog 11 #[.pointer p, .slice b n c] w fun e w' => e = .returned (.tuple #[.int .i64 0, .int .i64 1]) ∧ w' = w := by
  go_enter Tryd.func11, Tryd.ntmps11
  go_wp2_with fail
  refine (made_no w p h).mono ?_
  rintro e w2 ⟨rfl, rfl⟩
  go_wp2_with fail
  go_ret2
  exact ⟨rfl, rfl⟩
theorem noAdd (w : World) (p : Option Addr) (cs : List Value) (h : Hid (NoTab w p)) : Calls Tryd.prog 12 #[.pointer p, .agg cs.toArray] w fun e w' => e = .returned (.int .i64 1) ∧ Below w.heap.size w w' := by
  obtain ⟨W1, hW1⟩ : ∃ W, W = w.alloc (.cells cs.toArray 41) := ⟨_, rfl⟩
  have B1 : Below w.heap.size w W1 := by rw [hW1]; go_grown
  have HN : Hid (NoTab W1 p) := h.out.on B1
  have HB : Hid (Below w.heap.size w W1) := B1
  clear B1 h
  go_enter Tryd.func12, Tryd.ntmps12
  go_wp2_with fail
  rw [← hW1]
  refine (made_no W1 p HN).mono ?_
  rintro e w2 ⟨rfl, rfl⟩
  clear hW1
  go_wp2_with fail
  go_ret
  exact ⟨rfl, HB.out⟩
theorem noDrop (w : World) (p : Option Addr) (cs : List Value) (h : Hid (NoTab w p)) : Calls Tryd.prog 13 #[.pointer p, .agg cs.toArray] w fun e w' => e = .returned (.int .i64 1) ∧ Below w.heap.size w w' := by
  obtain ⟨W1, hW1⟩ : ∃ W, W = w.alloc (.cells cs.toArray 41) := ⟨_, rfl⟩
  have B1 : Below w.heap.size w W1 := by rw [hW1]; go_grown
  have HN : Hid (NoTab W1 p) := h.out.on B1
  have HB : Hid (Below w.heap.size w W1) := B1
  clear B1 h
  go_enter Tryd.func13, Tryd.ntmps13
  go_wp2_with fail
  rw [← hW1]
  refine (made_no W1 p HN).mono ?_
  rintro e w2 ⟨rfl, rfl⟩
  clear hW1
  go_wp2_with fail
  go_ret
  exact ⟨rfl, HB.out⟩
theorem noClone (w : World) (p : Option Addr) (h : Hid (NoTab w p)) : Calls Tryd.prog 14 #[.pointer p] w fun e w' => e = .returned (.pointer none) ∧ w' = w := by
  go_enter Tryd.func14, Tryd.ntmps14
  go_wp2_with fail
  refine (made_no w p h).mono ?_
  rintro e w2 ⟨rfl, rfl⟩
  go_wp2_with fail
  go_ret
  exact ⟨rfl, rfl⟩

set_option maxHeartbeats 8000000 in
theorem none_walk (cs : List Value) (y : PlacedD) (w : World) (hy : RPlaced (fun _ => True) w cs y) (ht : Hid (TB w.heap.size w)) : Calls Tryd.prog 6 #[.agg cs.toArray] w fun e w' => e = .returned (.bool true) ∧ Below w.heap.size w w' := by
  obtain ⟨h2, h11, ⟨a16, n16, m16⟩, _, _, _, h, _⟩ := hy.reads
  have hi17 : (Tryd.prog.info? 41).map (·.size) = some cs.length := by rw [RPlaced.firm.len hy]; exact sizePl
  obtain ⟨W1, hW1⟩ : ∃ W, W = w.alloc (.cells cs.toArray 41) := ⟨_, rfl⟩
  have B1 : Below w.heap.size w W1 := by rw [hW1]; go_grown
  have qx : BoxL W1 w.heap.size cs := by rw [hW1]; exact BoxL.new w 41 cs
  have HT : Hid (TB W1.heap.size W1) := fun w' h => ht.out w' (on2 B1 h)
  have HQ : Hid (BoxL W1 w.heap.size cs ∧ Below w.heap.size w W1) := ⟨qx, B1⟩
  clear qx B1 ht hy
  go_enter Tryd.func6, Tryd.ntmps6
  go_wp2_with fail
  rw [← hW1]
  refine (works8_calls W1 HT).mono ?_
  rintro e w2 ⟨rfl, hb2⟩
  clear hW1
  obtain ⟨W3, hW3⟩ : ∃ W, W = w2.alloc (.cells #[.string ⟨#[]⟩, .slice none 0 0, .slice none 0 0, .slice none 0 0, .map none, .map none] 54) := ⟨_, rfl⟩
  have B3 : Below w2.heap.size w2 W3 := by rw [hW3]; go_grown
  have q3 : BoxL W3 w2.heap.size [.string ⟨#[]⟩, .slice none 0 0, .slice none 0 0, .slice none 0 0, .map none, .map none] := by rw [hW3]; exact BoxL.new w2 54 _
  have x3 : BoxL W3 w.heap.size cs := (HQ.out.1.on hb2).on B3
  have c16 := (x3.2 16 _ h).1
  have HN : Hid (∀ u, Below W3.heap.size W3 u → NoTab u (some ⟨w2.heap.size, 0, none⟩) ∧ BoxL u w.heap.size cs ∧ NoTab u none) := fun u hu => ⟨.inr ⟨_, _, rfl, q3.on hu, rfl⟩, x3.on hu, .inl rfl⟩
  have HB3 : Hid (Below w.heap.size w W3) := on2 HQ.out.2 (on2 hb2 B3)
  clear HQ HT q3 x3 B3 hb2
  go_upto_region 5 with fail
  rw [← hW3]
  clear hW3
  go_wp2_with fail
  refine (noCheck W3 none a16 n16 m16 (HN.out _ (Below.refl _ _)).2.2).mono ?_
  rintro e w4 ⟨rfl, rfl⟩
  go_wp2_with fail
  refine (noCheck w4 _ a16 n16 m16 (HN.out _ (Below.refl _ _)).1).mono ?_
  rintro e w5 ⟨rfl, rfl⟩
  have HN5 : Hid (BoxL w5 w.heap.size cs ∧ Below w.heap.size w w5) := ⟨(HN.out _ (Below.refl _ _)).2.1, HB3.out⟩
  go_wp2_with (refine load_w8 (by rfl) 41 _ rfl w.heap.size 0 rfl cs _ HN5.out.1.range Tryd.underlying41 rfl hi17 ?_)
  refine (noAdd w5 none cs (HN.out _ (Below.refl _ _)).2.2).mono ?_
  rintro e w6 ⟨rfl, hb6⟩
  have HN6 : Hid (BoxL w6 w.heap.size cs ∧ Below w5.heap.size w5 w6) := ⟨(HN.out _ hb6).2.1, hb6⟩
  clear hb6
  go_wp2_with (refine load_w8 (by rfl) 41 _ rfl w.heap.size 0 rfl cs _ HN6.out.1.range Tryd.underlying41 rfl hi17 ?_)
  refine (noAdd w6 _ cs (HN.out _ HN6.out.2).1).mono ?_
  rintro e w7 ⟨rfl, hb7⟩
  have HN7 : Hid (BoxL w7 w.heap.size cs ∧ Below w5.heap.size w5 w7) := ⟨HN6.out.1.on hb7, on2 HN6.out.2 hb7⟩
  clear hb7
  go_wp2_with (refine load_w8 (by rfl) 41 _ rfl w.heap.size 0 rfl cs _ HN7.out.1.range Tryd.underlying41 rfl hi17 ?_)
  refine (noDrop w7 none cs (HN.out _ HN7.out.2).2.2).mono ?_
  rintro e w8 ⟨rfl, hb8⟩
  have HN8 : Hid (BoxL w8 w.heap.size cs ∧ Below w5.heap.size w5 w8) := ⟨HN7.out.1.on hb8, on2 HN7.out.2 hb8⟩
  clear hb8
  go_wp2_with (refine load_w8 (by rfl) 41 _ rfl w.heap.size 0 rfl cs _ HN8.out.1.range Tryd.underlying41 rfl hi17 ?_)
  refine (noDrop w8 _ cs (HN.out _ HN8.out.2).1).mono ?_
  rintro e w9 ⟨rfl, hb9⟩
  have HN9 : Hid (BoxL w9 w.heap.size cs ∧ Below w5.heap.size w5 w9) := ⟨HN8.out.1.on hb9, on2 HN8.out.2 hb9⟩
  clear hb9
  go_wp2_with fail
  refine (noClone w9 none (HN.out _ HN9.out.2).2.2).mono ?_
  rintro e w10 ⟨rfl, rfl⟩
  go_wp2_with fail
  refine (noClone w10 _ (HN.out _ HN9.out.2).1).mono ?_
  rintro e w11 ⟨rfl, rfl⟩
  go_wp2_with fail
  go_ret
  exact ⟨rfl, on2 HN5.out.2 HN9.out.2⟩
end Go.Proofs.YtfnafgmengefaaaDoor
