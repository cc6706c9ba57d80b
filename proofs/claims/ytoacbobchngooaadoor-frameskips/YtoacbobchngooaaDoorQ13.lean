/- The program's texts of points, clones of lists, Run and Reset. Condition: the frame lies as is said of it, and the calls are not too many. The program's Clone. Condition: the frame lies as is said of it, and the calls are not too many. What a frame of the program must keep, where a clone of it is asked for: what is written, and what nobody writes any more. No condition. -/
import Derived.Test.YtoacbobchngooaaDoorQ12
import Derived.Test.YtoacbobchngooaaDoorQ08
import Derived.Test.YtoacbobchngooaaDoorQ06
import Derived.Test.YtoacbobchngooaaDoorQ05
namespace Go.Proofs.YtoacbobchngooaaDoor
open Go.RowKit Go.Maps
set_option linter.unusedSimpArgs false
set_option maxRecDepth 100000

theorem small_calls {pt : Int} (h : 1 ≤ pt ∧ pt ≤ 5) (w : World) : Calls Tryd.prog 58 #[.int .i64 pt] w fun e w' => e = .returned (.string (digS pt)) ∧ w' = w := by
  rcases five h with rfl | rfl | rfl | rfl | rfl
  · rw [dig1]
    clear h
    go_enter Tryd.func58, Tryd.ntmps58
    go_wp2_with fail
    go_ret
    exact ⟨rfl, rfl⟩
  · rw [dig2]
    clear h
    go_enter Tryd.func58, Tryd.ntmps58
    go_wp2_with fail
    go_ret
    exact ⟨rfl, rfl⟩
  · rw [dig3]
    clear h
    go_enter Tryd.func58, Tryd.ntmps58
    go_wp2_with fail
    go_ret
    exact ⟨rfl, rfl⟩
  · rw [dig4]
    clear h
    go_enter Tryd.func58, Tryd.ntmps58
    go_wp2_with fail
    go_ret
    exact ⟨rfl, rfl⟩
  · rw [dig5]
    clear h
    go_enter Tryd.func58, Tryd.ntmps58
    go_wp2_with fail
    go_ret
    exact ⟨rfl, rfl⟩
theorem format_calls {pt : Int} (h : 1 ≤ pt ∧ pt ≤ 5) (w : World) : Calls Tryd.prog 57 #[.int .i64 pt, .int .i64 10] w fun e w' => e = .returned (.string (digS pt)) ∧ w' = w := by
  have hA := small_calls h w
  have h0 : 0 ≤ pt := by omega
  have h1 : pt < 100 := by omega
  generalize digS pt = s at hA ⊢
  clear h
  go_enter Tryd.func57, Tryd.ntmps57
  go_wp2_with fail
  refine hA.mono ?_
  rintro e w1 ⟨rfl, rfl⟩
  clear hA
  go_wp2_with fail
  go_ret
  exact ⟨rfl, rfl⟩
theorem iitoa_calls {pt : Int} (h : 1 ≤ pt ∧ pt ≤ 5) (w : World) : Calls Tryd.prog 54 #[.int .i64 pt] w fun e w' => e = .returned (.string (digS pt)) ∧ w' = w := by
  have hA := format_calls h w
  have h0 : 0 ≤ pt := by omega
  have h1 : pt < 100 := by omega
  generalize digS pt = s at hA ⊢
  clear h
  go_enter Tryd.func54, Tryd.ntmps54
  go_wp2_with fail
  refine hA.mono ?_
  rintro e w1 ⟨rfl, rfl⟩
  clear hA
  go_wp2_with fail
  go_ret
  exact ⟨rfl, rfl⟩
theorem itoa5_calls {pt : Int} (h : 1 ≤ pt ∧ pt ≤ 5) (w : World) : Calls Tryd.prog 42 #[.int .i64 pt] w fun e w' => e = .returned (.string (digS pt)) ∧ w' = w := by
  have hA := iitoa_calls h w
  have h0 : 0 ≤ pt := by omega
  have h1 : pt < 100 := by omega
  generalize digS pt = s at hA ⊢
  clear h
  go_enter Tryd.func42, Tryd.ntmps42
  go_wp2_with fail
  refine hA.mono ?_
  rintro e w1 ⟨rfl, rfl⟩
  clear hA
  go_wp2_with fail
  go_ret
  exact ⟨rfl, rfl⟩
theorem noted_calls (A : Where) (cs : List Value) (x : PlugD × Bool) {pt : Int} (hp : 1 ≤ pt ∧ pt ≤ 5) (u : World) (hr : RPl8 A u cs x) : Calls Tryd.prog 37 #[.agg cs.toArray, .int .i64 pt] u fun e w' => e = .returned (.string (callS x.1.1 pt)) ∧ Below u.heap.size u w' := by
  obtain ⟨sa, sn, sc, rfl, hsz, _⟩ := hr.out
  obtain ⟨x1, hx1⟩ : ∃ y, y = x.1.1 := ⟨_, rfl⟩
  have HS : Hid (callS x.1.1 pt = x1 ++ ⟨#[58]⟩ ++ digS pt) := by rw [hx1]; rfl
  rw [HS.out]
  show Calls Tryd.prog 37 #[.agg #[.string x.1.1, .int .i64 x.1.2.1, .int .i64 x.1.2.2.1, .int .i64 x.1.2.2.2.1, .int .i64 x.1.2.2.2.2.1, .int .i64 (plW x.1), .slice sa sn sc, .bool x.2], .int .i64 pt] u fun e w' => e = .returned (.string (x1 ++ ⟨#[58]⟩ ++ digS pt)) ∧ Below u.heap.size u w'
  rw [← hx1] at hsz ⊢
  obtain ⟨W1, hW1⟩ : ∃ Z, Z = u.alloc (.cells #[.string x1, .int .i64 x.1.2.1, .int .i64 x.1.2.2.1, .int .i64 x.1.2.2.2.1, .int .i64 x.1.2.2.2.2.1, .int .i64 (plW x.1), .slice sa sn sc, .bool x.2] 59) := ⟨_, rfl⟩
  have b1 : Below u.heap.size u W1 := by rw [hW1]; exact (Below.refl _ _).alloc (Nat.le_refl _) _
  have q1 : BoxL W1 u.heap.size [.string x1, .int .i64 x.1.2.1, .int .i64 x.1.2.2.1, .int .i64 x.1.2.2.2.1, .int .i64 x.1.2.2.2.2.1, .int .i64 (plW x.1), .slice sa sn sc, .bool x.2] := by rw [hW1]; exact BoxL.new u 59 _
  have HW : Hid (u.alloc (.cells #[.string x1, .int .i64 x.1.2.1, .int .i64 x.1.2.2.1, .int .i64 x.1.2.2.2.1, .int .i64 x.1.2.2.2.2.1, .int .i64 (plW x.1), .slice sa sn sc, .bool x.2] 59) = W1) := hW1.symm
  have HB : Hid (Below u.heap.size u W1) := b1
  obtain ⟨B, hBe⟩ : ∃ B, B = u.heap.size := ⟨_, rfl⟩
  have HBe : Hid (u.heap.size = B) := hBe.symm
  rw [← hBe] at q1
  have e0 := (q1.2 0 _ rfl).1
  have hA := fun z => itoa5_calls hp z
  have hds := dig_size hp
  have hx2 : ¬ 9223372036854775807 < x1.size + 1 := by omega
  have hx3 : ¬ 9223372036854775807 < x1.size + 1 + (digS pt).size := by rw [hds]; omega
  generalize digS pt = dg at hA hx3 ⊢
  clear hr hW1 b1 q1 hBe hx1 HS hds
  go_enter Tryd.func37, Tryd.ntmps37
  go_upto_region 1 with fail
  rw [HW.out, HBe.out]
  clear HW HBe
  go_quiet (first | (go_at_call 42; exact Calls.quiet_of_same (hA _)))
  --M1
  generalize hZ : World.drewN _ _ = Z
  have HE : Hid (Below u.heap.size u Z) := by rw [← hZ]; exact below_drewN HB.out _
  clear hZ e0
  go_wp2_with fail
  go_ret
  exact ⟨rfl, HE.out⟩
section
variable {α : Type} [Inhabited α] {R : Rep α} {k : Nat}
theorem Chunks.oneG (hR : Firm R k) {A : Where} {u : World} {xs : List Value} {L : List α} (h : Chunks R k A u xs L) : ∀ y ∈ xs, y.oneCell' = true := fun y hy => by
  obtain ⟨m, hm, rfl⟩ := List.mem_iff_getElem.1 hy
  rcases Nat.eq_zero_or_pos k with h0 | hk
  · have h1 := h.1; rw [h0, Nat.mul_zero] at h1; omega
  have hml : m < L.length * k := by rw [← h.1]; exact hm
  obtain ⟨cs, hr, hc⟩ := h.2 (m / k) ((Nat.div_lt_iff_lt_mul hk).2 hml)
  have e := hc (m % k) (Nat.mod_lt _ hk)
  rw [Nat.div_add_mod' m k, List.getElem?_eq_getElem hm] at e
  exact hR.one hr _ (List.mem_of_getElem? e.symm)
theorem Src.onG (hR : Firm R k) {A : Where} {u u' : World} {a : Option Addr} {m : Nat} {N : List α} (h : Src R k A u a m N) (hb : Below u.heap.size u u') : Src R k A u' a m N := by
  obtain ⟨hn, h0 | ⟨ad, xs, rfl, hc, hcell, hone⟩⟩ := h
  · exact ⟨hn, .inl h0⟩
  · exact ⟨hn, .inr ⟨ad, xs, rfl, hc.kept hR (Kept.below hb), fun j y hj => (hb.cell (p := ad.add j) (World.block_lt_of_cell? _ _ (hcell j y hj))).trans (hcell j y hj), hone⟩⟩
theorem Row.srcG (hR : Firm R k) {A : Where} {w0 u : World} {e : TypeId} {v : Value} {L : List α} (h : Row R k A w0 u e v L) : ∃ a c, v = .slice a L.length c ∧ Src R k (fun b => A b ∧ b < u.heap.size) u a L.length L ∧ (a = none → c = 0) := by
  obtain ⟨xs, h1, h2⟩ := h
  have h12 := h1.2
  obtain ⟨hl, ⟨rfl, h0⟩ | ⟨g, cap, cur, rfl, hg, hh, hnc, _, hcs, htk⟩⟩ := h1.2
  · have e : L = [] := List.length_eq_zero_iff.1 h0
    subst e
    exact ⟨none, 0, rfl, ⟨rfl, .inl ⟨rfl, rfl⟩⟩, fun _ => rfl⟩
  · refine ⟨_, cap, rfl, ⟨rfl, .inr ⟨_, xs, rfl, h2.weak hR (fun b hb h => ⟨h.1, hb⟩), fun j y hj => ?_, h2.oneG hR⟩⟩, fun e => by cases e⟩
    have hjl : j < xs.length := (List.getElem?_eq_some_iff.1 hj).1
    have := h12.cellAt j (by rw [hl] at hjl; exact hjl)
    rw [hj] at this
    by_cases h0 : j = 0
    · subst h0; simpa [Addr.add] using this
    · simpa [Addr.add, h0] using this
end
set_option maxHeartbeats 1000000 in
theorem CloneInt17 (a : Option Addr) (n cap : Nat) (A : Where) (L : List Int) (w : World) (hS : Src RInt 1 A w a n L) (hA : ∀ b, A b → b < w.heap.size) (h0 : a = none → cap = 0) (hlb : L.length * 8 ≤ 140737488355328) : Calls Tryd.prog 27 #[.slice a n cap] w fun e w' => ∃ v, e = .returned v ∧ Row RInt 1 A w w' 3 v L := by
  have hb0 : Below w.heap.size w (w.alloc (.cells #[] 3)) := by go_grown
  obtain ⟨hn, ⟨rfl, rfl⟩ | ⟨ad, xs, rfl, hc, hcell, hone⟩⟩ := hS
  · obtain rfl := h0 rfl
    obtain rfl : n = 0 := hn.symm
    have hE := fun w => Lib.run_eql_slice_nil (P := Tryd.prog) w 23 3 none 0 0 0 0 Tryd.underlying23
    have HP : Hid (Row RInt 1 A w w 3 (.slice none 0 0) ([] : List Int)) := Row.nil _ _ _
    clear hn h0 hA hlb
    go_enter Tryd.func27, Tryd.ntmps27
    go_wp2_with fail
    go_ret
    exact ⟨_, rfl, HP.out⟩
  · have hE := fun w => Lib.run_eql_slice_nil (P := Tryd.prog) w 23 3 (some ad) n cap 0 0 Tryd.underlying23
    have hR0 : Row RInt 1 A w (w.alloc (.cells #[] 3)) 3 (.slice (some ⟨w.heap.size, 0, none⟩) 0 0) ([] : List Int) := Row.start _ w w _ (Below.refl _ _)
    have HR : Hid (Row RInt 1 A w (w.alloc (.cells #[] 3)) 3 (.slice (some ⟨w.heap.size, 0, none⟩) 0 0) ([] : List Int)) := hR0
    have HC : Hid (Src RInt 1 (fun b => A b ∧ Value.ownBlock (.slice (some ⟨w.heap.size, 0, none⟩) 0 0) ≠ some b) (w.alloc (.cells #[] 3)) (some ad) n L) := by
      refine ⟨hn, .inr ⟨ad, xs, rfl, (hc.kept RInt.firm (Kept.below hb0)).weak RInt.firm (fun b _ h => ⟨h, by simp only [Value.ownBlock, ne_eq, Option.some.injEq]; have := hA b h; omega⟩), fun j y hj => ?_, hone⟩⟩
      have h1 := hcell j y hj
      exact (hb0.cell (p := ad.add j) (World.block_lt_of_cell? _ _ h1)).trans h1
    have HL : Hid ((([] : List Int).length + L.length) * 8 ≤ 140737488355328) := by rw [Hid, List.length_nil, Nat.zero_add]; exact hlb
    clear hc hcell hone h0 hA hlb hR0
    go_enter Tryd.func27, Tryd.ntmps27
    go_wp2_with (at_builtin; go_must (refine row_appendS RInt.firm (A := A) (w0 := w) rfl _ _ 23 3 rfl _ 8 infoIntF Tryd.underlying23 rfl (by decide) (by decide) _ [] rfl HR.out (some ad) n cap L rfl HC.out HL.out ?_); intro v1 w1 hrow1 hg1)
    go_ret
    exact ⟨_, rfl, by simpa using hrow1⟩
set_option maxHeartbeats 1000000 in
theorem ClonePl817 (a : Option Addr) (n cap : Nat) (A : Where) (L : List (PlugD × Bool)) (w : World) (hS : Src RPl8 8 A w a n L) (hA : ∀ b, A b → b < w.heap.size) (h0 : a = none → cap = 0) (hlb : L.length * 88 ≤ 140737488355328) : Calls Tryd.prog 31 #[.slice a n cap] w fun e w' => ∃ v, e = .returned v ∧ Row RPl8 8 A w w' 59 v L := by
  have hb0 : Below w.heap.size w (w.alloc (.cells #[] 59)) := by go_grown
  obtain ⟨hn, ⟨rfl, rfl⟩ | ⟨ad, xs, rfl, hc, hcell, hone⟩⟩ := hS
  · obtain rfl := h0 rfl
    obtain rfl : n = 0 := hn.symm
    have hE := fun w => Lib.run_eql_slice_nil (P := Tryd.prog) w 52 59 none 0 0 0 0 Tryd.underlying52
    have HP : Hid (Row RPl8 8 A w w 59 (.slice none 0 0) ([] : List (PlugD × Bool))) := Row.nil _ _ _
    clear hn h0 hA hlb
    go_enter Tryd.func31, Tryd.ntmps31
    go_wp2_with fail
    go_ret
    exact ⟨_, rfl, HP.out⟩
  · have hE := fun w => Lib.run_eql_slice_nil (P := Tryd.prog) w 52 59 (some ad) n cap 0 0 Tryd.underlying52
    have hR0 : Row RPl8 8 A w (w.alloc (.cells #[] 59)) 59 (.slice (some ⟨w.heap.size, 0, none⟩) 0 0) ([] : List (PlugD × Bool)) := Row.start _ w w _ (Below.refl _ _)
    have HR : Hid (Row RPl8 8 A w (w.alloc (.cells #[] 59)) 59 (.slice (some ⟨w.heap.size, 0, none⟩) 0 0) ([] : List (PlugD × Bool))) := hR0
    have HC : Hid (Src RPl8 8 (fun b => A b ∧ Value.ownBlock (.slice (some ⟨w.heap.size, 0, none⟩) 0 0) ≠ some b) (w.alloc (.cells #[] 59)) (some ad) n L) := by
      refine ⟨hn, .inr ⟨ad, xs, rfl, (hc.kept RPl8.firm (Kept.below hb0)).weak RPl8.firm (fun b _ h => ⟨h, by simp only [Value.ownBlock, ne_eq, Option.some.injEq]; have := hA b h; omega⟩), fun j y hj => ?_, hone⟩⟩
      have h1 := hcell j y hj
      exact (hb0.cell (p := ad.add j) (World.block_lt_of_cell? _ _ h1)).trans h1
    have HL : Hid ((([] : List (PlugD × Bool)).length + L.length) * 88 ≤ 140737488355328) := by rw [Hid, List.length_nil, Nat.zero_add]; exact hlb
    clear hc hcell hone h0 hA hlb hR0
    go_enter Tryd.func31, Tryd.ntmps31
    go_wp2_with (at_builtin; go_must (refine row_appendS RPl8.firm (A := A) (w0 := w) rfl _ _ 52 59 rfl _ 88 infoPl8 Tryd.underlying52 rfl (by decide) (by decide) _ [] rfl HR.out (some ad) n cap L rfl HC.out HL.out ?_); intro v1 w1 hrow1 hg1)
    go_ret
    exact ⟨_, rfl, by simpa using hrow1⟩
set_option maxHeartbeats 1000000 in
theorem CloneCall17 (a : Option Addr) (n cap : Nat) (A : Where) (L : List (Int × Int)) (w : World) (hS : Src RCall 2 A w a n L) (hA : ∀ b, A b → b < w.heap.size) (h0 : a = none → cap = 0) (hlb : L.length * 16 ≤ 140737488355328) : Calls Tryd.prog 32 #[.slice a n cap] w fun e w' => ∃ v, e = .returned v ∧ Row RCall 2 A w w' 64 v L := by
  have hb0 : Below w.heap.size w (w.alloc (.cells #[] 64)) := by go_grown
  obtain ⟨hn, ⟨rfl, rfl⟩ | ⟨ad, xs, rfl, hc, hcell, hone⟩⟩ := hS
  · obtain rfl := h0 rfl
    obtain rfl : n = 0 := hn.symm
    have hE := fun w => Lib.run_eql_slice_nil (P := Tryd.prog) w 53 64 none 0 0 0 0 Tryd.underlying53
    have HP : Hid (Row RCall 2 A w w 64 (.slice none 0 0) ([] : List (Int × Int))) := Row.nil _ _ _
    clear hn h0 hA hlb
    go_enter Tryd.func32, Tryd.ntmps32
    go_wp2_with fail
    go_ret
    exact ⟨_, rfl, HP.out⟩
  · have hE := fun w => Lib.run_eql_slice_nil (P := Tryd.prog) w 53 64 (some ad) n cap 0 0 Tryd.underlying53
    have hR0 : Row RCall 2 A w (w.alloc (.cells #[] 64)) 64 (.slice (some ⟨w.heap.size, 0, none⟩) 0 0) ([] : List (Int × Int)) := Row.start _ w w _ (Below.refl _ _)
    have HR : Hid (Row RCall 2 A w (w.alloc (.cells #[] 64)) 64 (.slice (some ⟨w.heap.size, 0, none⟩) 0 0) ([] : List (Int × Int))) := hR0
    have HC : Hid (Src RCall 2 (fun b => A b ∧ Value.ownBlock (.slice (some ⟨w.heap.size, 0, none⟩) 0 0) ≠ some b) (w.alloc (.cells #[] 64)) (some ad) n L) := by
      refine ⟨hn, .inr ⟨ad, xs, rfl, (hc.kept RCall.firm (Kept.below hb0)).weak RCall.firm (fun b _ h => ⟨h, by simp only [Value.ownBlock, ne_eq, Option.some.injEq]; have := hA b h; omega⟩), fun j y hj => ?_, hone⟩⟩
      have h1 := hcell j y hj
      exact (hb0.cell (p := ad.add j) (World.block_lt_of_cell? _ _ h1)).trans h1
    have HL : Hid ((([] : List (Int × Int)).length + L.length) * 16 ≤ 140737488355328) := by rw [Hid, List.length_nil, Nat.zero_add]; exact hlb
    clear hc hcell hone h0 hA hlb hR0
    go_enter Tryd.func32, Tryd.ntmps32
    go_wp2_with (at_builtin; go_must (refine row_appendS RCall.firm (A := A) (w0 := w) rfl _ _ 53 64 rfl _ 16 infoCall Tryd.underlying53 rfl (by decide) (by decide) _ [] rfl HR.out (some ad) n cap L rfl HC.out HL.out ?_); intro v1 w1 hrow1 hg1)
    go_ret
    exact ⟨_, rfl, by simpa using hrow1⟩
set_option maxHeartbeats 4000000 in
theorem run_calls {S : Where} {w u : World} {p : Nat} {b c : Value} {C : List (Int × Int)} {f : FrD} (h : PfE S w u p b c C f) (hC : f.2.2.length ≤ 1000000) (pt : Int) :
    Calls Tryd.prog 14 #[.pointer (some ⟨p, 0, none⟩), .int .i64 pt] u fun e w' => e = .returned (.tuple #[.int .i64 (runP f pt).2, .int .i64 (runE pt)]) ∧ PfO S w u p b c (runP f pt).1 w' := by
  have hM := made_calls h
  have Hh : Hid (PfE S w u p b c C f) := h
  have h64 := h.h64
  by_cases hlo : pt < 1
  · have e1 : runP f pt = (f, 0) := by unfold runP; rw [if_pos (.inl hlo)]
    have e2 : runE pt = 2 := by unfold runE; rw [if_pos (.inl hlo)]
    rw [e1, e2]
    clear h e1 e2
    go_enter Tryd.func14, Tryd.ntmps14
    go_wp2_with fail
    refine hM.mono ?_
    rintro e w1 ⟨rfl, rfl⟩
    clear hM
    go_wp2_with fail
    go_ret2
    exact ⟨rfl, PfO.refl Hh.out⟩
  by_cases hhi : 5 < pt
  · have e1 : runP f pt = (f, 0) := by unfold runP; rw [if_pos (.inr hhi)]
    have e2 : runE pt = 2 := by unfold runE; rw [if_pos (.inr hhi)]
    rw [e1, e2]
    clear h e1 e2
    go_enter Tryd.func14, Tryd.ntmps14
    go_wp2_with fail
    refine hM.mono ?_
    rintro e w1 ⟨rfl, rfl⟩
    clear hM
    go_wp2_with fail
    go_ret2
    exact ⟨rfl, PfO.refl Hh.out⟩
  have e2 : runE pt = 0 := runE_in (by omega)
  rw [e2]
  clear e2
  by_cases h5 : pt = 5
  · subst h5
    have e1 : runP f 5 = ((f.1, f.2.1, f.2.2 ++ unresP f.1 f.1.length), 0) := by unfold runP; rw [if_neg (by decide), if_pos rfl]
    rw [e1]
    obtain ⟨ba, bk, rfl, _⟩ := h.form
    have c1 := h.cells.1.2.1
    have hA := giveBack_calls h (m := f.1.length) (Nat.le_refl _) (by omega)
    obtain ⟨n, hn⟩ : ∃ n, n = f.1.length := ⟨_, rfl⟩
    rw [← hn] at h64 c1 hA ⊢
    clear h e1 Hh hn
    go_enter Tryd.func14, Tryd.ntmps14
    go_wp2_with fail
    refine hM.mono ?_
    rintro e w1 ⟨rfl, rfl⟩
    clear hM
    go_wp2_with fail
    refine hA.mono ?_
    rintro e w5 ⟨rfl, h5⟩
    have HE : Hid (PfO S w w1 p (.slice ba n bk) c (f.1, f.2.1, f.2.2 ++ unresP f.1 n) w5) := h5
    clear hA h5
    go_wp2_with fail
    go_ret2
    exact ⟨rfl, HE.out⟩
  have hp4 : 1 ≤ pt ∧ pt ≤ 4 := by omega
  have h5z : (pt == 5) = false := by simpa using h5
  rw [runP_mid f hp4]
  have hA := goThrough_calls h hC hp4
  generalize runL f.1 pt f.1 0 f.2.1 f.2.2 false = RR at hA ⊢
  clear h Hh h5
  go_enter Tryd.func14, Tryd.ntmps14
  go_wp2_with fail
  refine hM.mono ?_
  rintro e w1 ⟨rfl, rfl⟩
  clear hM
  go_wp2_with fail
  refine hA.mono ?_
  rintro e w5 ⟨rfl, h5⟩
  have HE : Hid (PfO S w w1 p b c (f.1, RR.1, RR.2.1) w5) := h5
  clear hA h5
  go_wp2_with fail
  go_ret2
  exact ⟨rfl, HE.out⟩
set_option maxHeartbeats 4000000 in
theorem reset_calls {S : Where} {w u : World} {p : Nat} {b c : Value} {C : List (Int × Int)} {f : FrD} (h : PfE S w u p b c C f) :
    Calls Tryd.prog 11 #[.pointer (some ⟨p, 0, none⟩)] u fun e w' => e = .returned (.tuple #[]) ∧ PfO S w u p b c (resetP f) w' := by
  have hM := made_calls h
  have h64 := h.h64
  obtain ⟨n, hn⟩ : ∃ n, n = f.1.length := ⟨_, rfl⟩
  have HK : Hid (f.2.1.length = n) := by rw [hn]; exact h.hl
  obtain ⟨ba, bk, rfl, hbg⟩ := h.form
  have d1 := h.cells.1.2.1
  have H0 : Hid (PfE S w u p (.slice ba f.1.length bk) c C (f.1, turnG (fun _ => false) f.2.1 0, f.2.2) ∧ Turns (DF p (.slice ba f.1.length bk) c) u u) := ⟨by rw [turnG_zero]; exact h, Turns.refl _ _⟩
  have HNl : Hid (f.1.length = n) := hn.symm
  rw [← hn] at h64 hbg d1 H0 ⊢
  have HBG : Hid (0 < n → ∃ g, ba = some ⟨g, 0, none⟩) := hbg
  clear h hbg hn
  go_enter Tryd.func11, Tryd.ntmps11
  go_wp2_with fail
  refine hM.mono ?_
  rintro e w1 ⟨rfl, rfl⟩
  clear hM
  go_wp2_with fail
  --M1
  go_loopw [11] (fun i z => ∃ k : Nat, k ≤ n ∧ i = .int .i64 k ∧ Hid (PfE S w z p (.slice ba n bk) c C (f.1, turnG (fun _ => false) f.2.1 k, f.2.2) ∧ Turns (DF p (.slice ba n bk) c) w1 z)) (fun i _ => n - (intOf i).toNat)
  case atStart => exact ⟨0, Nat.zero_le _, rfl, H0⟩
  case round =>
    clear H0 d1
    obtain ⟨k, hk, rfl, hrun⟩ := hrel
    by_cases hlt : k < n
    · have hltz : (k : Int) < (n : Int) := by omega
      have hkl : k < f.2.1.length := by rw [HK.out]; exact hlt
      obtain ⟨g, rfl⟩ := HBG.out (by omega)
      have q1 := hrun.out.1.cells.1.2.1
      have hkF : k < (f.1, turnG (fun _ => false) f.2.1 k, f.2.2).1.length := by show k < f.1.length; rw [HNl.out]; exact hlt
      obtain ⟨g', k', sa, sn, sc, e, _, hv, _, _⟩ := hrun.out.1.plug hkF
      simp only [Value.slice.injEq, Option.some.injEq, Addr.mk.injEq, and_true, true_and] at e
      obtain ⟨rfl, -, rfl⟩ := e
      have d7 := hv 7 _ rfl
      have n0 := hrun.out.1.rb.meltsG (o := k * 8 + 7)
      have hN := hrun.out.1.setB HNl.out hlt false
      have hset := turnG_set (fun _ => false) f.2.1 hkl
      dsimp only at hN hset d7
      rw [hset] at hN
      have HE : Hid (PfE S w (wr.setCell ⟨g, k * 8 + 7, none⟩ (.bool false)) p (.slice (some ⟨g, 0, none⟩) n bk) c C (f.1, turnG (fun _ => false) f.2.1 (k + 1), f.2.2) ∧ Turns (DF p (.slice (some ⟨g, 0, none⟩) n bk) c) w1 (wr.setCell ⟨g, k * 8 + 7, none⟩ (.bool false))) := ⟨hN, hrun.out.2.trans (Turns.set (p := ⟨g, k * 8 + 7, none⟩) (.inr (.inl rfl)) _)⟩
      generalize (turnG (fun _ => false) f.2.1 k).getD k default = s0 at d7
      clear hN hset hv hrun hkF
      --M2
      go_wp2_with fail
      go_roundw
      case rel => exact ⟨k + 1, by omega, by go_num, HE⟩
      case measure => simp [intOf]; omega
    · have hltz : ¬ (k : Int) < (n : Int) := by omega
      have q2 := hrun.out.1.cells.1.2.2
      have q3 := hrun.out.1.cells.2
      have h := hrun.out
      rw [show k = f.2.1.length by rw [HK.out]; omega, turnG_all] at h
      have hN := h.1.newC (u' := wr) (v' := .slice none 0 0) (C' := []) (N := []) (Kept.refl _ _) ((Row.nil _ w _).on RCall.firm h.1.below) (.inr (fun x e => by cases e)) rfl (fun x hx => by cases hx)
      have HE : Hid (PfO S w w1 p (.slice ba n bk) c (resetP f) (wr.setCell ⟨p, 2, none⟩ (.slice none 0 0))) := ⟨_, _, hN, h.2.trans (Turns.set (p := ⟨p, 2, none⟩) (.inl rfl) _), .inr (fun x e => by cases e)⟩
      clear hrun hN h
      go_wp2_with fail
      go_end0
      exact ⟨rfl, HE.out⟩
end Go.Proofs.YtoacbobchngooaaDoor
namespace Go.Proofs.YtoacbobchngooaaDoor
open Go.RowKit Go.Maps
set_option linter.unusedSimpArgs false
set_option maxRecDepth 100000

set_option maxHeartbeats 8000000 in
theorem clone_calls17 {S : Where} {w u : World} {p : Nat} {b c : Value} {C : List (Int × Int)} {f : FrD} (h : PfE S w u p b c C f) (hC : f.2.2.length ≤ 1000000) :
    Calls Tryd.prog 13 #[.pointer (some ⟨p, 0, none⟩)] u fun e w' => ∃ p' b' c', e = .returned (.pointer (some ⟨p', 0, none⟩)) ∧ PfE S u w' p' b' c' C f := by
  have hM := made_calls h
  have h64 := h.h64
  have hlc : C.length = f.2.2.length := by rw [h.hC, List.length_map]
  have hlz := zip_lenF h.hl
  obtain ⟨ba, bk, hbe, hbs, hbn⟩ := h.rb.srcG RPl8.firm
  obtain ⟨ca, ck, hce, hcs, hcn⟩ := h.rc.srcG RCall.firm
  subst hbe; subst hce
  have Hh : Hid (PfE S w u p (.slice ba (f.1.zip f.2.1).length bk) (.slice ca C.length ck) C f) := h
  have HA : Hid (∀ z, Below u.heap.size u z → Calls Tryd.prog 31 #[.slice ba (f.1.zip f.2.1).length bk] z fun e w' => ∃ v, e = .returned v ∧ Row RPl8 8 (fun x => S x ∧ x < u.heap.size) z w' 59 v (f.1.zip f.2.1)) := fun z hz => by
    refine ClonePl817 ba _ bk _ _ z ?_ (fun x hx => Nat.lt_of_lt_of_le hx.2 hz.size) hbn (by rw [hlz]; omega)
    exact hbs.onG RPl8.firm hz
  have HB : Hid (∀ z, Below u.heap.size u z → Calls Tryd.prog 32 #[.slice ca C.length ck] z fun e w' => ∃ v, e = .returned v ∧ Row RCall 2 (fun x => False ∧ x < u.heap.size) z w' 64 v C) := fun z hz => by
    refine CloneCall17 ca _ ck _ _ z ?_ (fun x hx => hx.1.elim) hcn (by omega)
    exact hcs.onG RCall.firm hz
  have HC : Hid (∀ z, Kept (fun y => y = p) u z → z.cell? ⟨p, 1, none⟩ = some (.slice ba (f.1.zip f.2.1).length bk) ∧ z.cell? ⟨p, 2, none⟩ = some (.slice ca C.length ck)) := fun z hz => by
    have hb := h.box.kept hz rfl
    exact ⟨(hb.2 1 _ rfl).1, (hb.2 2 _ rfl).1⟩
  obtain ⟨nb, hnb⟩ : ∃ n, n = (f.1.zip f.2.1).length := ⟨_, rfl⟩
  obtain ⟨nc, hnc⟩ : ∃ n, n = C.length := ⟨_, rfl⟩
  rw [← hnb, ← hnc] at HC
  rw [← hnb] at HA
  rw [← hnc] at HB
  clear h hbs hcs hbn hcn hlz hlc hnb hnc
  go_enter Tryd.func13, Tryd.ntmps13
  go_wp2_with fail
  refine hM.mono ?_
  rintro e w1 ⟨rfl, rfl⟩
  clear hM
  go_upto_region 3 with fail
  --M1
  have hb0 : Below w1.heap.size w1 w1.drew := (Below.refl _ _).drew
  refine t0 (fun z => Kept (fun y => y = p) w1 z) (Kept.below hb0) (fun hHeld => ?_)
  have Hd : Hid (Below w1.heap.size w1 w1.drew) := hb0
  generalize hwd : w1.drew = wd at hHeld Hd ⊢
  clear hwd hb0
  try go_frame
  refine' tk 0 ?_ ?_; rotate_left
  · intro z hz; obtain ⟨f0, f1⟩ := HC.out z hz; clear hz; go_simp; try with_reducible rfl
  try go_frame
  refine' tk 1 ?_ ?_; rotate_left
  · intro z hz; obtain ⟨f0, f1⟩ := HC.out z hz; clear hz; go_simp; try with_reducible rfl
  try go_frame
  refine' tk 2 ?_ ?_; rotate_left
  · intro z hz; obtain ⟨f0, f1⟩ := HC.out z hz; clear hz; go_simp; try with_reducible rfl
  try go_frame
  refine' tk 3 ?_ ?_; rotate_left
  · intro z hz; obtain ⟨f0, f1⟩ := HC.out z hz; clear hz; go_simp; try with_reducible rfl
  try go_frame
  refine' tk 5 ?_ ?_; rotate_left
  · intro z hz; obtain ⟨f0, f1⟩ := HC.out z hz; clear hz; go_simp; try with_reducible rfl
  try go_frame
  refine' tk 6 ?_ ?_; rotate_left
  · intro z hz; obtain ⟨f0, f1⟩ := HC.out z hz; clear hz; go_simp; try with_reducible rfl
  try go_frame
  refine' tk 7 ?_ ?_; rotate_left
  · intro z hz; obtain ⟨f0, f1⟩ := HC.out z hz; clear hz; go_simp; try with_reducible rfl
  try go_frame
  refine' tk 8 ?_ ?_; rotate_left
  · intro z hz; obtain ⟨f0, f1⟩ := HC.out z hz; clear hz; go_simp; try with_reducible rfl
  try go_frame
  --M2
  have hA := HA.out wd Hd.out
  refine tr 4 (fun K hK => ?_)
  go_simp
  refine hA.mono ?_
  rintro e w5 ⟨v5, rfl, hr5⟩
  have Hd5 : Hid (Below w1.heap.size w1 w5) := on2 Hd.out hr5.below
  have HR5 : Hid (Row RPl8 8 (fun x => S x ∧ x < w1.heap.size) w1 w5 59 v5 (f.1.zip f.2.1)) := hr5.from RPl8.firm Hd.out (fun _ h => h)
  go_wp2_with fail
  refine hK.out _ _ (Kept.below Hd5.out) (fun hHeld2 => ?_)
  clear hK K hHeld hr5 Hd hA; have hHeld := hHeld2; clear hHeld2
  try go_frame
  --M3
  have hB := HB.out w5 Hd5.out
  refine tr 9 (fun K hK => ?_)
  go_simp
  refine hB.mono ?_
  rintro e w6 ⟨v6, rfl, hr6⟩
  have HR6 : Hid (Row RCall 2 (fun _ => False) w1 w6 64 v6 C ∧ ∀ x, v6.ownBlock = some x → w5.heap.size ≤ x) := ⟨(hr6.from RCall.firm Hd5.out (fun _ h => h.1.elim)), fun x hx => (hr6.lt hx).1⟩
  have HR56 : Hid (Row RPl8 8 (fun x => S x ∧ x < w1.heap.size) w1 w6 59 v5 (f.1.zip f.2.1) ∧ ∀ x, v5.ownBlock = some x → w1.heap.size ≤ x ∧ x < w5.heap.size) := ⟨HR5.out.on RPl8.firm hr6.below, fun x hx => HR5.out.lt hx⟩
  have Hd6 : Hid (Below w1.heap.size w1 w6) := on2 Hd5.out hr6.below
  go_wp2_with fail
  refine hK.out _ _ (Kept.below Hd6.out) (fun hHeld2 => ?_)
  clear hK K hHeld hr6 Hd5 hB HR5; have hHeld := hHeld2; clear hHeld2
  try go_frame
  obtain ⟨v5a, v5n, v5c, rfl⟩ := HR56.out.1.headG
  obtain ⟨v6a, v6n, v6c, rfl⟩ := HR6.out.1.headG
  refine' tk 10 ?_ ?_; rotate_left
  · intro z hz; obtain ⟨f0, f1⟩ := HC.out z hz; clear hz; go_simp; try with_reducible rfl
  try go_frame
  --M4
  refine tr 11 (fun K hK => ?_)
  go_simp
  obtain ⟨W7, hW7⟩ : ∃ Z, Z = w6.alloc (.cells #[.bool true, .slice v5a v5n v5c, .slice v6a v6n v6c] 55) := ⟨_, rfl⟩
  have b7 : Below w6.heap.size w6 W7 := by rw [hW7]; exact (Below.refl _ _).alloc (Nat.le_refl _) _
  have q7 : BoxL W7 w6.heap.size [.bool true, .slice v5a v5n v5c, .slice v6a v6n v6c] := by rw [hW7]; exact BoxL.new w6 55 _
  rw [← hW7]
  clear hW7
  have HE : Hid (PfE S w1 W7 w6.heap.size (.slice v5a v5n v5c) (.slice v6a v6n v6c) C f) := by
    have h := Hh.out
    have s6 := Hd6.out.size
    refine ⟨q7, (HR56.out.1.on RPl8.firm b7).wAG RPl8.firm (fun _ h => h.1), HR6.out.1.on RCall.firm b7, Hd6.out.size, fun x hx => ?_, fun e => ?_, fun e => ?_, fun x e e2 => ?_, h.hl, h.hv, h.hC, h.hI⟩
    · have h1 := (h.sp x hx).1
      have h2 := b7.size
      exact ⟨by omega, by omega, fun e => by have := (HR56.out.2 x e).1; omega, fun e => by have := (HR6.out.1.lt e).1; omega⟩
    · have := (HR56.out.1.lt e).2; omega
    · have := (HR6.out.1.lt e).2; omega
    · have h1 := (HR56.out.2 x e).2
      have h2 := HR6.out.2 x e2
      omega
  refine hK.out _ _ (hHeld.trans (Kept.below b7)) (fun hHeld2 => ?_)
  clear hK K hHeld; have hHeld := hHeld2; clear hHeld2
  try go_frame
  refine' tk 12 ?_ ?_; rotate_left
  · intro z hz; obtain ⟨f0, f1⟩ := HC.out z hz; clear hz; go_simp; try with_reducible rfl
  try go_frame
  refine tz ?_
  clear hHeld HC HA HB q7 b7
  --M5
  go_wp2_with fail
  go_ret
  exact ⟨_, _, _, rfl, HE.out⟩
end Go.Proofs.YtoacbobchngooaaDoor
namespace Go.Proofs.YtoacbobchngooaaDoor
open Go.RowKit Go.Maps
set_option linter.unusedSimpArgs false
set_option maxRecDepth 100000

/-- What New hands back: S is what nobody writes any more. -/
def NewO2 (PF : Where → Where → World → Nat → FrD → Prop) (l : List PlugD) (w : World) (e : Ending) (w' : World) : Prop :=
  Below w.heap.size w w' ∧ ((newB l = true ∧ ∃ p S, e = .returned (.tuple #[.pointer (some ⟨p, 0, none⟩), .int .i64 0]) ∧ PF S (fun b => w.heap.size ≤ b ∧ ¬ S b) w' p (newP l) ∧ ∀ b, S b → w.heap.size ≤ b ∧ b < w'.heap.size) ∨ (newB l = false ∧ e = .returned (.tuple #[.pointer none, .int .i64 170])))
/-- A frame of the program: where it lies, and what its calls answer. -/
structure FrameOK2 where
  PF : Where → Where → World → Nat → FrD → Prop
  weak : ∀ {S F G : Where} {u : World} {p : Nat} {f : FrD}, PF S F u p f → (∀ b, b < u.heap.size → F b → G b) → PF S G u p f
  kept : ∀ {S F : Where} {u u' : World} {p : Nat} {f : FrD}, PF S F u p f → Kept (fun b => F b ∨ S b) u u' → PF S F u' p f
  still : ∀ {S F : Where} {u : World} {p : Nat} {f : FrD}, PF S F u p f → ∀ b, S b → b < u.heap.size
  new : ∀ (a : Option Addr) (n cap : Nat) (A : Where) (l : List PlugD) (w : World), Hid (SlAt RPlug 7 80 A w a n cap l) → Calls Tryd.prog 9 #[.slice a n cap] w (NewO2 PF l w)
  run : ∀ {S F : Where} {u : World} {p : Nat} {f : FrD}, PF S F u p f → (∀ b, u.heap.size ≤ b → F b) → f.2.2.length ≤ 100000 → ∀ pt : Int, Calls Tryd.prog 14 #[.pointer (some ⟨p, 0, none⟩), .int .i64 pt] u fun e w' => e = .returned (.tuple #[.int .i64 (runP f pt).2, .int .i64 (runE pt)]) ∧ PF S F w' p (runP f pt).1 ∧ Turns F u w'
  calls : ∀ {S F : Where} {u : World} {p : Nat} {f : FrD}, PF S F u p f → f.2.2.length ≤ 1000000 → Calls Tryd.prog 16 #[.pointer (some ⟨p, 0, none⟩)] u fun e w' => ∃ v, e = .returned v ∧ Row RTxt 1 (fun _ => False) u w' 9 v f.2.2
  reset : ∀ {S F : Where} {u : World} {p : Nat} {f : FrD}, PF S F u p f → (∀ b, u.heap.size ≤ b → F b) → Calls Tryd.prog 11 #[.pointer (some ⟨p, 0, none⟩)] u fun e w' => e = .returned (.tuple #[]) ∧ PF S F w' p (resetP f) ∧ Turns F u w'
  scores : ∀ {S F : Where} {u : World} {p : Nat} {f : FrD}, PF S F u p f → Calls Tryd.prog 19 #[.pointer (some ⟨p, 0, none⟩)] u fun e w' => ∃ v, e = .returned v ∧ Row RInt 1 (fun _ => False) u w' 3 v (scoresP f.1)
  clone : ∀ {S F : Where} {u : World} {p : Nat} {f : FrD}, PF S F u p f → f.2.2.length ≤ 1000000 → Calls Tryd.prog 13 #[.pointer (some ⟨p, 0, none⟩)] u fun e w' => ∃ p', e = .returned (.pointer (some ⟨p', 0, none⟩)) ∧ PF S (Fresh u) w' p' f ∧ Below u.heap.size u w'
  more : ∀ {S F : Where} {u : World} {p : Nat} {f : FrD}, PF S F u p f → f.1.length ≤ 64 ∧ p < u.heap.size ∧ F p
/-- Without clones: all of it lies in F. -/
def FrameOK2.plain (V : FrameOK2) : FrameOK := {
  PF := fun F u p f => ∃ S, (∀ b, S b → F b) ∧ V.PF S F u p f,
  weak := fun ⟨S, h1, h2⟩ k => ⟨S, fun b hb => k b (V.still h2 b hb) (h1 b hb), V.weak h2 k⟩,
  kept := fun ⟨S, h1, h2⟩ k => ⟨S, h1, V.kept h2 (k.weak (fun b hb => hb.elim id (h1 b)))⟩,
  new := fun a n cap A l w h => (V.new a n cap A l w h).mono (fun e w' ⟨hb, ho⟩ => ⟨hb, by
    rcases ho with ⟨hv, p, S, rfl, hp, hs⟩ | hno
    · exact .inl ⟨hv, p, rfl, S, fun b h => (hs b h).1, V.weak hp (fun b _ h => h.1)⟩
    · exact .inr hno⟩),
  run := fun ⟨S, h1, h2⟩ hF hl pt => (V.run h2 hF hl pt).mono (fun e w' ⟨he, hp, ht⟩ => ⟨he, ⟨S, h1, hp⟩, ht⟩),
  calls := fun ⟨S, _, h2⟩ hl => V.calls h2 hl,
  reset := fun ⟨S, h1, h2⟩ hF => (V.reset h2 hF).mono (fun e w' ⟨he, hp, ht⟩ => ⟨he, ⟨S, h1, hp⟩, ht⟩),
  scores := fun ⟨S, _, h2⟩ => V.scores h2,
  more := fun ⟨S, _, h2⟩ => V.more h2 }
end Go.Proofs.YtoacbobchngooaaDoor
