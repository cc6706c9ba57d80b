/- quant's split and join of an amount of several things, and the two methods over members: what they return, and that they change nothing that was there. No condition. The document's own Plus, Minus and Fits of amounts of several things: what they return, and that they change nothing that was there. No condition. The document's Of: what a node has of pods. Condition: the arguments lie as is said of them; the pods' ports and claims together are within what an append may ask. The law's 'pods' gives copies of its own. Condition: the slice lies as is said of it. -/
import Derived.Test.YtddeilhelkfpoaaQ08
import Derived.Deep.QuietTactic
import Derived.BigQuiet
import Derived.BigRegion
import Derived.Deep.RegionHeld3
import Derived.Deep.DeepCutAuto
import Derived.Outline
import Derived.Handy
import Derived.Test.YtddeilhelkfpoaaQ03
import Derived.Test.YtddeilhelkfpoaaQ05
import Derived.Test.YtddeilhelkfpoaaQ06
import Derived.Test.YtddeilhelkfpoaaQ07
namespace Go.Proofs.Ytddeilhelkfpoaa
open Go.RowKit

abbrev res (a b c : Int) : Value := .agg #[.int .i64 a, .int .i64 b, .int .i64 c]

set_option maxHeartbeats 1000000 in
theorem split_calls (a b c : Int) (w : World) : Calls Try.prog 66 #[.agg #[.int .i64 a, .int .i64 b, .int .i64 c]] w fun e w' => e = .returned (.agg #[.int .i64 a, .int .i64 b, .int .i64 c]) ∧ w' = ((w.alloc (.cells #[.int .i64 a, .int .i64 b, .int .i64 c] 25)).alloc (.cells #[.int .i64 a, .int .i64 b, .int .i64 c] 108)) := by
  go_enter Try.func66, Try.ntmps66
  go_wp2
  exact bodyPost_ret (v := .agg #[.int .i64 a, .int .i64 b, .int .i64 c]) (by simp [results, Try.results66, go_sem]) rfl ⟨rfl, rfl⟩
set_option maxHeartbeats 1000000 in
theorem join_calls (a b c : Int) (w : World) : Calls Try.prog 67 #[.agg #[.int .i64 a, .int .i64 b, .int .i64 c]] w fun e w' => e = .returned (.agg #[.int .i64 a, .int .i64 b, .int .i64 c]) ∧ w' = ((w.alloc (.cells #[.int .i64 a, .int .i64 b, .int .i64 c] 108)).alloc (.cells #[.int .i64 a, .int .i64 b, .int .i64 c] 25)) := by
  go_enter Try.func67, Try.ntmps67
  go_wp2
  exact bodyPost_ret (v := .agg #[.int .i64 a, .int .i64 b, .int .i64 c]) (by simp [results, Try.results67, go_sem]) rfl ⟨rfl, rfl⟩

theorem join_below (a b c : Int) (w : World) : Calls Try.prog 67 #[.agg #[.int .i64 a, .int .i64 b, .int .i64 c]] w fun e w' => e = .returned (.agg #[.int .i64 a, .int .i64 b, .int .i64 c]) ∧ Below w.heap.size w w' :=
  (join_calls a b c w).mono fun e w' ⟨he, hw⟩ => ⟨he, by rw [hw]; exact ((Below.refl _ _).alloc (Nat.le_refl _) _).alloc (by simp) _⟩

set_option maxHeartbeats 400000 in
theorem plus_calls (a b : Int) (w : World) : Calls Try.prog 55 #[.int .i64 a, .int .i64 b] w fun e w' => e = .returned (.int .i64 (addI a b)) ∧ w' = w := by
  go_enter Try.func55, Try.ntmps55
  go_wp2_with (go_at_call 68; refine (add_calls _ _ _).mono ?_; rintro e w' ⟨rfl, rfl⟩)
  go_ret
  exact ⟨rfl, rfl⟩
set_option maxHeartbeats 400000 in
theorem minus_calls (a b : Int) (w : World) : Calls Try.prog 57 #[.int .i64 a, .int .i64 b] w fun e w' => e = .returned (.int .i64 (subI a b)) ∧ w' = w := by
  go_enter Try.func57, Try.ntmps57
  go_wp2_with (go_at_call 70; refine (sub_calls _ _ _).mono ?_; rintro e w' ⟨rfl, rfl⟩)
  go_ret
  exact ⟨rfl, rfl⟩

/-- block B of the world holds just these three numbers -/
def Holds3 (w : World) (B : Nat) (a b c : Int) : Prop := w.cell? ⟨B, 0, none⟩ = some (.int .i64 a) ∧ w.cell? ⟨B, 1, none⟩ = some (.int .i64 b) ∧ w.cell? ⟨B, 2, none⟩ = some (.int .i64 c)

end Go.Proofs.Ytddeilhelkfpoaa
namespace Go.Proofs.Ytddeilhelkfpoaa
open Go.RowKit
set_option maxRecDepth 100000

set_option maxHeartbeats 4000000 in
theorem rplus_calls (a b c x y z : Int) (w : World) : Calls Try.prog 32 #[.agg #[.int .i64 a, .int .i64 b, .int .i64 c], .agg #[.int .i64 x, .int .i64 y, .int .i64 z]] w fun e w' => e = .returned (.agg #[.int .i64 (addI a x), .int .i64 (addI b y), .int .i64 (addI c z)]) ∧ Below w.heap.size w w' := by
  go_enter Try.func32, Try.ntmps32
  go_wp2_with fail
  go_region_held3 (fun w' => w'.cell? ⟨w.heap.size, 0, none⟩ = some (.int .i64 a) ∧ w'.cell? ⟨w.heap.size, 1, none⟩ = some (.int .i64 b) ∧ w'.cell? ⟨w.heap.size, 2, none⟩ = some (.int .i64 c) ∧ w'.cell? ⟨w.heap.size + 1, 0, none⟩ = some (.int .i64 x) ∧ w'.cell? ⟨w.heap.size + 1, 1, none⟩ = some (.int .i64 y) ∧ w'.cell? ⟨w.heap.size + 1, 2, none⟩ = some (.int .i64 z)) ((refine ⟨?_, ?_, ?_, ?_, ?_, ?_⟩) <;> (simp [go_sem]; done))
    (first | (go_at_call 56; refine (radd_calls _ _ _).mono ?_; rintro e w' ⟨rfl, rfl⟩))
  go_wp2_with fail
  exact bodyPost_ret (v := .agg #[.int .i64 (addI a x), .int .i64 (addI b y), .int .i64 (addI c z)]) (by simp [results, Try.results32, go_sem]) rfl ⟨rfl, by go_grown⟩
set_option maxHeartbeats 4000000 in
theorem rminus_calls (a b c x y z : Int) (w : World) : Calls Try.prog 38 #[.agg #[.int .i64 a, .int .i64 b, .int .i64 c], .agg #[.int .i64 x, .int .i64 y, .int .i64 z]] w fun e w' => e = .returned (.agg #[.int .i64 (subI a x), .int .i64 (subI b y), .int .i64 (subI c z)]) ∧ Below w.heap.size w w' := by
  go_enter Try.func38, Try.ntmps38
  go_wp2_with fail
  go_region_held3 (fun w' => w'.cell? ⟨w.heap.size, 0, none⟩ = some (.int .i64 a) ∧ w'.cell? ⟨w.heap.size, 1, none⟩ = some (.int .i64 b) ∧ w'.cell? ⟨w.heap.size, 2, none⟩ = some (.int .i64 c) ∧ w'.cell? ⟨w.heap.size + 1, 0, none⟩ = some (.int .i64 x) ∧ w'.cell? ⟨w.heap.size + 1, 1, none⟩ = some (.int .i64 y) ∧ w'.cell? ⟨w.heap.size + 1, 2, none⟩ = some (.int .i64 z)) ((refine ⟨?_, ?_, ?_, ?_, ?_, ?_⟩) <;> (simp [go_sem]; done))
    (first | (go_at_call 58; refine (rsub_calls _ _ _).mono ?_; rintro e w' ⟨rfl, rfl⟩))
  go_wp2_with fail
  exact bodyPost_ret (v := .agg #[.int .i64 (subI a x), .int .i64 (subI b y), .int .i64 (subI c z)]) (by simp [results, Try.results38, go_sem]) rfl ⟨rfl, by go_grown⟩

theorem ret_b {a b : Bool} (h : a = b) : Ending.returned (.bool a) = .returned (.bool b) := by rw [h]
/-- no member of the first is above the second's -/
def fitsB (a b c x y z : Int) : Bool := decide (clampI a ≤ clampI x) && decide (clampI b ≤ clampI y) && decide (clampI c ≤ clampI z)

end Go.Proofs.Ytddeilhelkfpoaa
namespace Go.Proofs.Ytddeilhelkfpoaa
open Go.RowKit
set_option linter.unusedSimpArgs false
set_option maxRecDepth 100000

/-- The blocks, and the three rows. -/
structure OfSt (w X u : World) (N Z Q : List Value) (s6 s7 s8 : Value) (A6 : List ByteArray) (A7 : List Int) (A8 : List ByteArray) : Prop where
  b : PB w X N Z Q
  r6 : Row RStr 1 (fun _ => False) X u 9 s6 A6
  r7 : Row RInt 1 (fun _ => False) X u 3 s7 A7
  r8 : Row RStr 1 (fun _ => False) X u 9 s8 A8
  d67 : ∀ b, s6.ownBlock = some b → s7.ownBlock ≠ some b
  d68 : ∀ b, s6.ownBlock = some b → s8.ownBlock ≠ some b
  d78 : ∀ b, s7.ownBlock = some b → s8.ownBlock ≠ some b
section
variable {w X u : World} {N Z Q : List Value} {s6 s7 s8 : Value} {A6 : List ByteArray} {A7 : List Int} {A8 : List ByteArray}
theorem OfSt.on (h : OfSt w X u N Z Q s6 s7 s8 A6 A7 A8) {u' : World} (hb : Below u.heap.size u u') : OfSt w X u' N Z Q s6 s7 s8 A6 A7 A8 :=
  ⟨h.b, h.r6.on RStr.firm hb, h.r7.on RInt.firm hb, h.r8.on RStr.firm hb, h.d67, h.d68, h.d78⟩
theorem OfSt.box (h : OfSt w X u N Z Q s6 s7 s8 A6 A7 A8) : PB w u N Z Q := h.b.on h.r6.below
theorem OfSt.app6 (h : OfSt w X u N Z Q s6 s7 s8 A6 A7 A8) {u' : World} {v : Value} {B : List ByteArray} (hr : Row RStr 1 (fun _ => False) X u' 9 v B) (hg : u.grownBy u' s6.ownBlock) (hp : v.ownBlock = s6.ownBlock ∨ v.ownBlock = some u.heap.size) : OfSt w X u' N Z Q v s7 s8 B A7 A8 := by
  refine ⟨h.b, hr, h.r7.grown RInt.firm hg (fun b hb => ⟨(h.r6.lt hb).1, h.d67 b hb, id⟩), h.r8.grown RStr.firm hg (fun b hb => ⟨(h.r6.lt hb).1, h.d68 b hb, id⟩), fun b hb => ?_, fun b hb => ?_, h.d78⟩
  · rcases hp with hp | hp
    · exact h.d67 b (hp ▸ hb)
    · intro h7; have := (h.r7.lt h7).2; rw [hp] at hb; injection hb with hb; omega
  · rcases hp with hp | hp
    · exact h.d68 b (hp ▸ hb)
    · intro h7; have := (h.r8.lt h7).2; rw [hp] at hb; injection hb with hb; omega
theorem OfSt.app7 (h : OfSt w X u N Z Q s6 s7 s8 A6 A7 A8) {u' : World} {v : Value} {B : List Int} (hr : Row RInt 1 (fun _ => False) X u' 3 v B) (hg : u.grownBy u' s7.ownBlock) (hp : v.ownBlock = s7.ownBlock ∨ v.ownBlock = some u.heap.size) : OfSt w X u' N Z Q s6 v s8 A6 B A8 := by
  refine ⟨h.b, h.r6.grown RStr.firm hg (fun b hb => ⟨(h.r7.lt hb).1, fun e => h.d67 b e hb, id⟩), hr, h.r8.grown RStr.firm hg (fun b hb => ⟨(h.r7.lt hb).1, h.d78 b hb, id⟩), fun b hb h7 => ?_, h.d68, fun b hb => ?_⟩
  · rcases hp with hp | hp
    · exact h.d67 b hb (hp ▸ h7)
    · have := (h.r6.lt hb).2; rw [hp] at h7; injection h7 with h7; omega
  · rcases hp with hp | hp
    · exact h.d78 b (hp ▸ hb)
    · intro h7; have := (h.r8.lt h7).2; rw [hp] at hb; injection hb with hb; omega
theorem OfSt.app8 (h : OfSt w X u N Z Q s6 s7 s8 A6 A7 A8) {u' : World} {v : Value} {B : List ByteArray} (hr : Row RStr 1 (fun _ => False) X u' 9 v B) (hg : u.grownBy u' s8.ownBlock) (hp : v.ownBlock = s8.ownBlock ∨ v.ownBlock = some u.heap.size) : OfSt w X u' N Z Q s6 s7 v A6 A7 B := by
  refine ⟨h.b, h.r6.grown RStr.firm hg (fun b hb => ⟨(h.r8.lt hb).1, fun e => h.d68 b e hb, id⟩), h.r7.grown RInt.firm hg (fun b hb => ⟨(h.r8.lt hb).1, fun e => h.d78 b e hb, id⟩), hr, h.d67, fun b hb h7 => ?_, fun b hb h7 => ?_⟩
  · rcases hp with hp | hp
    · exact h.d68 b hb (hp ▸ h7)
    · have := (h.r6.lt hb).2; rw [hp] at h7; injection h7 with h7; omega
  · rcases hp with hp | hp
    · exact h.d78 b hb (hp ▸ h7)
    · have := (h.r7.lt hb).2; rw [hp] at h7; injection h7 with h7; omega
theorem OfSt.set (h : OfSt w X u N Z Q s6 s7 s8 A6 A7 A8) (i : Nat) (v : Value) (hi : i < Q.length) : OfSt w (X.setCell ⟨w.heap.size + 1 + 1, i, none⟩ v) (u.setCell ⟨w.heap.size + 1 + 1, i, none⟩ v) N Z (Q.set i v) s6 s7 s8 A6 A7 A8 :=
  ⟨h.b.set i v hi, h.r6.both RStr.firm h.b.sz id v, h.r7.both RInt.firm h.b.sz id v, h.r8.both RStr.firm h.b.sz id v, h.d67, h.d68, h.d78⟩
end
def UsS (w : World) (D off : Nat) (ua ub uc wa wb wc : Int) (u : World) : Prop :=
  u.cell? ⟨w.heap.size + 1 + 1, 10, none⟩ = some (.int .i64 ua) ∧ u.cell? ⟨w.heap.size + 1 + 1, 11, none⟩ = some (.int .i64 ub) ∧ u.cell? ⟨w.heap.size + 1 + 1, 12, none⟩ = some (.int .i64 uc) ∧ u.cell? ⟨D, off + 3, none⟩ = some (.int .i64 wa) ∧ u.cell? ⟨D, off + 4, none⟩ = some (.int .i64 wb) ∧ u.cell? ⟨D, off + 5, none⟩ = some (.int .i64 wc)
set_option maxHeartbeats 8000000 in
theorem rOf_calls (ns : List Value) (a : Option Addr) (n cap : Nat) (A A' : Where) (x : NodeD) (L : List PodD) (w : World) (hN : Hid (RNode A w ns x)) (hL : Hid (SlAt RPod 16 296 A' w a n cap L)) (hF : Hid (FitsP L)) : Calls Try.prog 10 #[.agg ns.toArray, .slice a n cap] w fun e w' => ∃ cs', e = .returned (.agg cs'.toArray) ∧ InfoAt A (Fresh w) w' cs' (ofP x L) ∧ Below w.heap.size w w' := by
  obtain ⟨nn, nl, nt, no, ⟨ga, gb, gc⟩, np, nd⟩ := x
  have hN0 := hN
  obtain ⟨⟨a1, n1, m1⟩, ⟨a2, n2, m2⟩, rfl, _⟩ := hN.out.out
  simp only at hN0 ⊢
  clear hN
  have hlen := hL.out.len (by decide)
  have hn : Hid (L.length = n) := hL.out.1
  have hbb : Hid (n * 296 ≤ 140737488351232) := hL.out.2.2.2.1
  obtain ⟨W3, hW3⟩ : ∃ W3, W3 = (((w.alloc (.cells #[.string nn, .slice a1 n1 m1, .slice a2 n2 m2, .bool no, .int .i64 ga, .int .i64 gb, .int .i64 gc, .int .i64 np, .int .i64 nd] 27)).alloc (.cells #[.string ⟨#[]⟩, .slice none 0 0, .slice none 0 0, .bool false, .int .i64 0, .int .i64 0, .int .i64 0, .int .i64 0, .int .i64 0, .slice none 0 0, .int .i64 0, .int .i64 0, .int .i64 0, .slice none 0 0, .slice none 0 0] 41)).alloc (.cells #[.string nn, .slice a1 n1 m1, .slice a2 n2 m2, .bool no, .int .i64 ga, .int .i64 gb, .int .i64 gc, .int .i64 np, .int .i64 nd, .slice none 0 0, .int .i64 0, .int .i64 0, .int .i64 0, .slice none 0 0, .slice none 0 0] 41)) := ⟨_, rfl⟩
  have hsz : Hid (W3.heap.size = w.heap.size + 1 + 1 + 1) := by rw [Hid, hW3]; simp
  have B3 : Hid (PB w W3 [.string nn, .slice a1 n1 m1, .slice a2 n2 m2, .bool no, .int .i64 ga, .int .i64 gb, .int .i64 gc, .int .i64 np, .int .i64 nd] [.string ⟨#[]⟩, .slice none 0 0, .slice none 0 0, .bool false, .int .i64 0, .int .i64 0, .int .i64 0, .int .i64 0, .int .i64 0, .slice none 0 0, .int .i64 0, .int .i64 0, .int .i64 0, .slice none 0 0, .slice none 0 0] [.string nn, .slice a1 n1 m1, .slice a2 n2 m2, .bool no, .int .i64 ga, .int .i64 gb, .int .i64 gc, .int .i64 np, .int .i64 nd, .slice none 0 0, .int .i64 0, .int .i64 0, .int .i64 0, .slice none 0 0, .slice none 0 0]) := by
    rw [hW3]
    refine ⟨(BoxL.new w 27 [.string nn, .slice a1 n1 m1, .slice a2 n2 m2, .bool no, .int .i64 ga, .int .i64 gb, .int .i64 gc, .int .i64 np, .int .i64 nd]).on (((Below.refl _ _).alloc (Nat.le_refl _) _).alloc (by simp) _), ?_, ?_, by go_grown⟩
    · have := (BoxL.new (w.alloc (.cells #[.string nn, .slice a1 n1 m1, .slice a2 n2 m2, .bool no, .int .i64 ga, .int .i64 gb, .int .i64 gc, .int .i64 np, .int .i64 nd] 27)) 41 [.string ⟨#[]⟩, .slice none 0 0, .slice none 0 0, .bool false, .int .i64 0, .int .i64 0, .int .i64 0, .int .i64 0, .int .i64 0, .slice none 0 0, .int .i64 0, .int .i64 0, .int .i64 0, .slice none 0 0, .slice none 0 0]).on ((Below.refl _ _).alloc (Nat.le_refl _) (.cells #[.string nn, .slice a1 n1 m1, .slice a2 n2 m2, .bool no, .int .i64 ga, .int .i64 gb, .int .i64 gc, .int .i64 np, .int .i64 nd, .slice none 0 0, .int .i64 0, .int .i64 0, .int .i64 0, .slice none 0 0, .slice none 0 0] 41))
      simpa using this
    · have := BoxL.new ((w.alloc (.cells #[.string nn, .slice a1 n1 m1, .slice a2 n2 m2, .bool no, .int .i64 ga, .int .i64 gb, .int .i64 gc, .int .i64 np, .int .i64 nd] 27)).alloc (.cells #[.string ⟨#[]⟩, .slice none 0 0, .slice none 0 0, .bool false, .int .i64 0, .int .i64 0, .int .i64 0, .int .i64 0, .int .i64 0, .slice none 0 0, .int .i64 0, .int .i64 0, .int .i64 0, .slice none 0 0, .slice none 0 0] 41)) 41 [.string nn, .slice a1 n1 m1, .slice a2 n2 m2, .bool no, .int .i64 ga, .int .i64 gb, .int .i64 gc, .int .i64 np, .int .i64 nd, .slice none 0 0, .int .i64 0, .int .i64 0, .int .i64 0, .slice none 0 0, .slice none 0 0]
      simpa using this
  have HI0 : Hid (OfSt w W3 (((W3.alloc (.cells #[] 9)).alloc (.cells #[] 3)).alloc (.cells #[] 9)) [.string nn, .slice a1 n1 m1, .slice a2 n2 m2, .bool no, .int .i64 ga, .int .i64 gb, .int .i64 gc, .int .i64 np, .int .i64 nd] [.string ⟨#[]⟩, .slice none 0 0, .slice none 0 0, .bool false, .int .i64 0, .int .i64 0, .int .i64 0, .int .i64 0, .int .i64 0, .slice none 0 0, .int .i64 0, .int .i64 0, .int .i64 0, .slice none 0 0, .slice none 0 0] [.string nn, .slice a1 n1 m1, .slice a2 n2 m2, .bool no, .int .i64 ga, .int .i64 gb, .int .i64 gc, .int .i64 np, .int .i64 nd, .slice none 0 0, .int .i64 0, .int .i64 0, .int .i64 0, .slice none 0 0, .slice none 0 0] (.slice (some ⟨w.heap.size + 1 + 1 + 1, 0, none⟩) 0 0) (.slice (some ⟨w.heap.size + 1 + 1 + 1 + 1, 0, none⟩) 0 0) (.slice (some ⟨w.heap.size + 1 + 1 + 1 + 1 + 1, 0, none⟩) 0 0) (ofAcc (L.take 0)).1 (ofAcc (L.take 0)).2.2.1 (ofAcc (L.take 0)).2.2.2) := by
    have hs := hsz.out
    have b1 : Below W3.heap.size W3 (W3.alloc (.cells #[] 9)) := (Below.refl _ _).alloc (Nat.le_refl _) _
    have b2 : Below W3.heap.size W3 ((W3.alloc (.cells #[] 9)).alloc (.cells #[] 3)) := b1.alloc b1.size _
    have r6 := ((Row.start (R := RStr) (k := 1) (fun _ => False) W3 W3 9 (Below.refl _ _)).on RStr.firm ((Below.refl _ _).alloc (Nat.le_refl _) (.cells #[] 3))).on RStr.firm ((Below.refl _ _).alloc (Nat.le_refl _) (.cells #[] 9))
    have r7 := (Row.start (R := RInt) (k := 1) (fun _ => False) W3 _ 3 b1).on RInt.firm ((Below.refl _ _).alloc (Nat.le_refl _) (.cells #[] 9))
    have r8 := Row.start (R := RStr) (k := 1) (fun _ => False) W3 _ 9 b2
    simp only [World.size_alloc, hs] at r6 r7 r8
    exact ⟨B3.out, r6, r7, r8, by intro b hb; simp [Value.ownBlock] at hb ⊢; omega, by intro b hb; simp [Value.ownBlock] at hb ⊢; omega, by intro b hb; simp [Value.ownBlock] at hb ⊢; omega⟩
  go_enter Try.func10, Try.ntmps10
  go_wp2_with fail
  rw [← hW3]
  clear hW3
  go_loopw [6, 7, 8, 9] (fun s6 s7 s8 i wr => ∃ (k : Nat) (X : World), k ≤ n ∧ i = .int .i64 k ∧ Hid (OfSt w X wr [.string nn, .slice a1 n1 m1, .slice a2 n2 m2, .bool no, .int .i64 ga, .int .i64 gb, .int .i64 gc, .int .i64 np, .int .i64 nd] [.string ⟨#[]⟩, .slice none 0 0, .slice none 0 0, .bool false, .int .i64 0, .int .i64 0, .int .i64 0, .int .i64 0, .int .i64 0, .slice none 0 0, .int .i64 0, .int .i64 0, .int .i64 0, .slice none 0 0, .slice none 0 0] [.string nn, .slice a1 n1 m1, .slice a2 n2 m2, .bool no, .int .i64 ga, .int .i64 gb, .int .i64 gc, .int .i64 np, .int .i64 nd, .slice none 0 0, .int .i64 (ofAcc (L.take k)).2.1.1, .int .i64 (ofAcc (L.take k)).2.1.2.1, .int .i64 (ofAcc (L.take k)).2.1.2.2, .slice none 0 0, .slice none 0 0] s6 s7 s8 (ofAcc (L.take k)).1 (ofAcc (L.take k)).2.2.1 (ofAcc (L.take k)).2.2.2)) (fun _ _ _ i _ => n - (intOf i).toNat)
  case atStart => exact ⟨0, W3, Nat.zero_le _, rfl, HI0⟩
  case round =>
    obtain ⟨k, X, hk, rfl, hI⟩ := hrel
    by_cases hlt : k < n
    · have hltz : (k : Int) < (n : Int) := by omega
      have hkl : k < L.length := by rw [hn.out]; exact hlt
      obtain ⟨D, off, rfl, hD, _, cs, hr, hv⟩ := hL.out.get hlt
      have HT : Hid (ofAcc (L.take (k + 1)) = ofStep (ofAcc (L.take k)) (L.getD k default)) := acc_succ L hkl
      have HB : Hid _ := acc_fits hF.out hkl
      have HA : Hid ((ofAcc (L.take k)).1.length ≤ k) := (acc_len L k (by rw [hn.out]; exact hk)).1
      generalize L.getD k default = p at hr HT HB
      generalize ofAcc (L.take k) = s at hI HT HB HA
      obtain ⟨nms, ⟨ua, ub, uc⟩, pts, dks⟩ := s
      obtain ⟨nm, pri, lab, ⟨wa, wb, wc⟩, brs, ask, prf, prt, nea, apa, spr, clm, nod, hop⟩ := p
      obtain ⟨h2, h6, h7, h8, ⟨a9, n9, m9⟩, h10, h11, h12, ⟨a13, n13, m13⟩, rfl, hp0, _, _, _, _, t9, _, _, _, t13, _, _⟩ := hr.out
      simp only at hI HB HA t9 t13 hv
      have T9 : Hid (SlAt RInt 1 8 A' w a9 n9 m9 prt) := t9
      have T13 : Hid (SlAt RStr 1 16 A' w a13 n13 m13 clm) := t13
      have hbw : Below w.heap.size w wr := hI.out.box.b
      have HD : Hid (∀ {u : World} (j : Nat) (v : Value), Below w.heap.size w u → _[j]? = some v → u.cell? ⟨D, off + k * 16 + j, none⟩ = some v) := fun {u} j v hb hj => (hb.cell hD).trans (hv j v hj)
      have d0 := HD.out 0 _ hbw rfl
      rw [Nat.add_zero] at d0
      have Hd3 : Hid (∀ {u : World}, Below w.heap.size w u → u.cell? ⟨D, off + k * 16 + 3, none⟩ = some (.int .i64 wa) ∧ u.cell? ⟨D, off + k * 16 + 4, none⟩ = some (.int .i64 wb) ∧ u.cell? ⟨D, off + k * 16 + 5, none⟩ = some (.int .i64 wc)) := fun hb => ⟨HD.out 3 _ hb rfl, HD.out 4 _ hb rfl, HD.out 5 _ hb rfl⟩
      have Hd9 : Hid (∀ {u : World}, Below w.heap.size w u → u.cell? ⟨D, off + k * 16 + 9, none⟩ = some (.slice a9 n9 m9)) := fun hb => HD.out 9 _ hb rfl
      have Hd13 : Hid (∀ {u : World}, Below w.heap.size w u → u.cell? ⟨D, off + k * 16 + 13, none⟩ = some (.slice a13 n13 m13)) := fun hb => HD.out 13 _ hb rfl
      clear hr hv HD t9 t13
      have hby : nms.length * 16 ≤ 140737488351232 := by have h1 := HA.out; have h2 := hbb.out; omega
      obtain ⟨b6, c6, e6, hS6⟩ := hI.out.r6.sl (bytes := 16) RStr.firm hby
      subst e6
      have HS6 : Hid (SlAt RStr 1 16 _ wr b6 nms.length c6 nms) := hS6
      clear hS6 hby
      go_wp2_with fail
      refine (Has_calls b6 nms.length c6 _ nms nm wr HS6.out).mono ?_
      rintro e w9 ⟨rfl, hw9⟩
      rw [hw9]
      clear hw9 w9
      cases hhas : hasB sEq nms nm
      ·
        have HT2 : Hid (ofAcc (L.take (k + 1)) = (nms ++ [nm], ((addI ua wa), (addI ub wb), (addI uc wc)), pts ++ prt, dks ++ clm)) := by rw [Hid, HT.out]; simp [ofStep, hhas, plusR, pWant, pPorts, pClaims]
        clear HT hhas
        have bA : Below wr.heap.size wr (wr.alloc (.cells #[.string nm] 9)) := (Below.refl _ _).alloc (Nat.le_refl _) _
        have hIA := hI.out.on bA
        have HRA : Hid (Row RStr 1 (fun _ => False) X (wr.alloc (.cells #[.string nm] 9)) 9 (.slice b6 nms.length c6) nms) := hIA.r6
        have HIA : Hid _ := hIA
        have HN : Hid (Src RStr 1 (fun b => False ∧ Value.ownBlock (.slice b6 nms.length c6) ≠ some b) (wr.alloc (.cells #[.string nm] 9)) (some ⟨wr.heap.size, 0, none⟩) 1 [nm]) := ⟨rfl, .inr ⟨_, [.string nm], rfl, chunk_one RStr.firm ⟨rfl, hp0⟩, one_cells wr [.string nm] 9, by simp [Value.oneCell']⟩⟩
        have HB6 : Hid ((nms.length + [nm].length) * 16 ≤ 140737488355328) := by have h1 := HA.out; have h2 := hbb.out; simp [Hid]; omega
        clear bA hIA
        go_wp2_with (at_builtin; go_must (refine row_appendP RStr.firm (A := (fun _ => False)) (w0 := X) rfl _ _ 35 9 rfl _ 16 infostr Try.underlying35 rfl (by decide) (by decide) _ nms rfl HRA.out (some ⟨wr.heap.size, 0, none⟩) 1 1 [nm] rfl HN.out HB6.out ?_); intro v6 u1 hr6 hg6 hp6)
        have hI1 := HIA.out.app6 hr6 hg6 hp6
        clear hr6 hg6 hp6 HRA HIA HN HB6 HS6 d0
        have HI1 : Hid _ := hI1
        clear hI1
        have HS : Hid (∀ {u : World}, Below X.heap.size X u → UsS w D (off + k * 16) ua ub uc wa wb wc u) := fun {u} hb => ⟨((HI1.out.b.on hb).q.2 10 _ rfl).1, ((HI1.out.b.on hb).q.2 11 _ rfl).1, ((HI1.out.b.on hb).q.2 12 _ rfl).1, Hd3.out (HI1.out.b.on hb).b⟩
        have hbX1 := HI1.out.r6.below
        refine u0 9 (UsS w D (off + k * 16) ua ub uc wa wb wc) (HS.out hbX1.drew) (fun hHeld => ?_)
        refine' uk 0 ?_ ?_; rotate_left
        · intro u ⟨_, _, _, _, _, _⟩; go_simp; try with_reducible rfl
        try go_frame
        refine' uk 1 ?_ ?_; rotate_left
        · intro u ⟨_, _, _, _, _, _⟩; go_simp; try with_reducible rfl
        try go_frame
        refine' uk 2 ?_ ?_; rotate_left
        · intro u ⟨_, _, _, _, _, _⟩; go_simp; try with_reducible rfl
        try go_frame
        refine' uk 3 ?_ ?_; rotate_left
        · intro u ⟨_, _, _, _, _, _⟩; go_simp; try with_reducible rfl
        try go_frame
        refine' uk 4 ?_ ?_; rotate_left
        · intro u ⟨_, _, _, _, _, _⟩; go_simp; try with_reducible rfl
        try go_frame
        refine' uk 5 ?_ ?_; rotate_left
        · intro u ⟨_, _, _, _, _, _⟩; go_simp; try with_reducible rfl
        try go_frame
        refine' uk 6 ?_ ?_; rotate_left
        · intro u ⟨_, _, _, _, _, _⟩; go_simp; try with_reducible rfl
        try go_frame
        refine ur 7 (fun K hK => ?_)
        go_simp
        refine (rplus_calls ua ub uc wa wb wc u1.drew).mono ?_
        rintro e u2 ⟨rfl, hb2⟩
        have hb12 : Below u1.heap.size u1 u2 := on2 (Below.refl _ _).drew hb2
        have hI2 := HI1.out.on hb12
        go_wp2_with fail
        refine hK.out _ _ (HS.out (on2 hbX1 hb12)) (fun hHeld2 => ?_)
        clear hK K hHeld; have hHeld := hHeld2; clear hHeld2
        try go_frame
        refine' uk 8 ?_ ?_; rotate_left
        · intro u ⟨_, _, _, _, _, _⟩; go_simp; try with_reducible rfl
        try go_frame
        obtain ⟨q10, f10⟩ := hI2.box.q.2 10 _ rfl
        obtain ⟨q11, f11⟩ := hI2.box.q.2 11 _ rfl
        obtain ⟨q12, f12⟩ := hI2.box.q.2 12 _ rfl
        have hI3 := ((hI2.set 10 (.int .i64 (addI ua wa)) (by simp)).set 11 (.int .i64 (addI ub wb)) (by simp)).set 12 (.int .i64 (addI uc wc)) (by simp)
        refine uz 9 (fun K hK => ?_)
        go_simp
        refine hK.out _ (NoPanic.normal ?_)
        try go_frame
        obtain ⟨u3, hu3⟩ : ∃ u3, u3 = (((u2.setCell ⟨w.heap.size + 1 + 1, 10, none⟩ (.int .i64 (addI ua wa))).setCell ⟨w.heap.size + 1 + 1, 11, none⟩ (.int .i64 (addI ub wb))).setCell ⟨w.heap.size + 1 + 1, 12, none⟩ (.int .i64 (addI uc wc))) := ⟨_, rfl⟩
        obtain ⟨X3, hX3⟩ : ∃ X3, X3 = (((X.setCell ⟨w.heap.size + 1 + 1, 10, none⟩ (.int .i64 (addI ua wa))).setCell ⟨w.heap.size + 1 + 1, 11, none⟩ (.int .i64 (addI ub wb))).setCell ⟨w.heap.size + 1 + 1, 12, none⟩ (.int .i64 (addI uc wc))) := ⟨_, rfl⟩
        rw [← hu3, ← hX3] at hI3
        rw [← hu3]
        have HI3 : Hid (OfSt w X3 u3 [.string nn, .slice a1 n1 m1, .slice a2 n2 m2, .bool no, .int .i64 ga, .int .i64 gb, .int .i64 gc, .int .i64 np, .int .i64 nd] [.string ⟨#[]⟩, .slice none 0 0, .slice none 0 0, .bool false, .int .i64 0, .int .i64 0, .int .i64 0, .int .i64 0, .int .i64 0, .slice none 0 0, .int .i64 0, .int .i64 0, .int .i64 0, .slice none 0 0, .slice none 0 0] [.string nn, .slice a1 n1 m1, .slice a2 n2 m2, .bool no, .int .i64 ga, .int .i64 gb, .int .i64 gc, .int .i64 np, .int .i64 nd, .slice none 0 0, .int .i64 (addI ua wa), .int .i64 (addI ub wb), .int .i64 (addI uc wc), .slice none 0 0, .slice none 0 0] v6 _ _ (nms ++ [nm]) pts dks) := hI3
        clear hI3 hu3 hX3 hK K q10 f10 q11 f11 q12 f12 hI2 hb2 hb12 hHeld HS hbX1 HI1 hI
        have d9 := Hd9.out HI3.out.box.b
        have HN9 : Hid (Src RInt 1 (fun b => False ∧ Value.ownBlock u7 ≠ some b) u3 a9 n9 prt) := (((T9.out.on RInt.firm HI3.out.box.b).src RInt.firm).flat RInt.flat)
        have HR7 : Hid _ := HI3.out.r7
        have HB9 : Hid ((pts.length + prt.length) * 8 ≤ 140737488355328) := by have h1 := HB.out.1; simp only [pPorts] at h1; rw [Hid]; omega
        go_upto_region 10 with (at_builtin; go_must (refine row_appendP RInt.firm (A := (fun _ => False)) (w0 := X3) rfl _ _ 32 3 rfl _ 8 infoint Try.underlying32 rfl (by decide) (by decide) _ pts rfl HR7.out a9 n9 m9 prt rfl HN9.out HB9.out ?_); intro v7 u4 hr7 hg7 hp7)
        have hI4 := HI3.out.app7 hr7 hg7 hp7
        have HI4 : Hid _ := hI4
        clear hI4 hr7 hg7 hp7 HR7 HN9 HB9 d9 HI3
        have d13 := Hd13.out HI4.out.box.b
        have HN13 : Hid (Src RStr 1 (fun b => False ∧ Value.ownBlock u8 ≠ some b) u4 a13 n13 clm) := (((T13.out.on RStr.firm HI4.out.box.b).src RStr.firm).flat RStr.flat)
        have HR8 : Hid _ := HI4.out.r8
        have HB13 : Hid ((dks.length + clm.length) * 16 ≤ 140737488355328) := by have h1 := HB.out.2; simp only [pClaims] at h1; rw [Hid]; omega
        go_wp2_with (at_builtin; go_must (refine row_appendP RStr.firm (A := (fun _ => False)) (w0 := X3) rfl _ _ 35 9 rfl _ 16 infostr Try.underlying35 rfl (by decide) (by decide) _ dks rfl HR8.out a13 n13 m13 clm rfl HN13.out HB13.out ?_); intro v8 u5 hr8 hg8 hp8)
        have HI5 : Hid _ := HI4.out.app8 hr8 hg8 hp8
        clear hr8 hg8 hp8 HR8 HN13 HB13 d13 HI4
        go_roundw
        case rel => exact ⟨k + 1, X3, by omega, by go_num, by rw [HT2.out]; exact HI5⟩
        case measure => simp [intOf]; omega
      ·
        have HT2 : Hid (ofAcc (L.take (k + 1)) = (nms, (ua, ub, uc), pts, dks)) := by rw [Hid, HT.out]; simp [ofStep, hhas]
        clear HT hhas HS6 d0
        go_wp2_with fail
        go_roundw
        case rel => exact ⟨k + 1, X, by omega, by go_num, by rw [HT2.out]; exact hI⟩
        case measure => simp [intOf]; omega
    · have hk9 : L.take k = L := List.take_of_length_le (by rw [hn.out]; omega)
      rw [hk9] at hI
      have HA : Hid ((ofAcc L).1.length ≤ n) := by have h1 := (acc_len L L.length (Nat.le_refl _)).1; rw [List.take_of_length_le (Nat.le_refl _), hn.out] at h1; exact h1
      have HB : Hid _ := acc_fits' hF.out
      have HE : Hid (ofP (nn, nl, nt, no, (ga, gb, gc), np, nd) L = accInfo (nn, nl, nt, no, (ga, gb, gc), np, nd) (ofAcc L)) := rfl
      have hlz : ¬ ((k : Int) < (n : Int)) := by omega
      generalize ofAcc L = s at hI HA HB HE
      obtain ⟨nms, ⟨ua, ub, uc⟩, pts, dks⟩ := s
      simp only at hI HA HB HE
      obtain ⟨b6, c6, e6, hS6⟩ := hI.out.r6.sl (bytes := 16) RStr.firm (by have h1 := HA.out; have h2 := hbb.out; omega)
      subst e6
      obtain ⟨b7, c7, e7, hS7⟩ := hI.out.r7.sl (bytes := 8) RInt.firm HB.out.1
      subst e7
      obtain ⟨b8, c8, e8, hS8⟩ := hI.out.r8.sl (bytes := 16) RStr.firm HB.out.2
      subst e8
      have HS6 : Hid (SlAt RStr 1 16 _ wr b6 nms.length c6 nms) := hS6
      have HS7 : Hid (SlAt RInt 1 8 _ wr b7 pts.length c7 pts) := hS7
      have HS8 : Hid (SlAt RStr 1 16 _ wr b8 dks.length c8 dks) := hS8
      have HB0 : Hid (PB w wr [.string nn, .slice a1 n1 m1, .slice a2 n2 m2, .bool no, .int .i64 ga, .int .i64 gb, .int .i64 gc, .int .i64 np, .int .i64 nd] [.string ⟨#[]⟩, .slice none 0 0, .slice none 0 0, .bool false, .int .i64 0, .int .i64 0, .int .i64 0, .int .i64 0, .int .i64 0, .slice none 0 0, .int .i64 0, .int .i64 0, .int .i64 0, .slice none 0 0, .slice none 0 0] [.string nn, .slice a1 n1 m1, .slice a2 n2 m2, .bool no, .int .i64 ga, .int .i64 gb, .int .i64 gc, .int .i64 np, .int .i64 nd, .slice none 0 0, .int .i64 ua, .int .i64 ub, .int .i64 uc, .slice none 0 0, .slice none 0 0]) := hI.out.box
      clear hS6 hS7 hS8 hI hk9
      go_wp2_with fail
      refine (Sorted_calls b6 nms.length c6 _ nms wr HS6.out).mono ?_
      rintro e y1 ⟨g9, k9, rfl, s9, hb1⟩
      have S9 : Hid (SlAt RStr 1 16 (fun b => w.heap.size + 1 + 1 < b) y1 g9 _ k9 (sortB sLt sEq nms)) := s9.weak RStr.firm (fun b _ hb => Nat.lt_of_lt_of_le HB0.out.sz hb)
      have HB1 : Hid (Below wr.heap.size wr y1) := hb1
      clear s9 hb1
      generalize (sortB sLt sEq nms).length = l9 at S9 ⊢
      go_wp2_with fail
      refine (ints_calls b7 pts.length c7 _ pts y1 (HS7.out.on RInt.firm HB1.out)).mono ?_
      rintro e y2 ⟨g13, k13, rfl, s13, hb2⟩
      have HB2 : Hid (Below wr.heap.size wr y2) := on2 HB1.out hb2
      have S13 : Hid (SlAt RInt 1 8 (fun b => w.heap.size + 1 + 1 < b) y2 g13 _ k13 (sortB iLt iEq pts)) := s13.weak RInt.firm (fun b _ hb => Nat.lt_of_lt_of_le (HB0.out.on HB1.out).sz hb)
      have S9b : Hid (SlAt RStr 1 16 (fun b => w.heap.size + 1 + 1 < b) y2 g9 l9 k9 (sortB sLt sEq nms)) := S9.out.on RStr.firm hb2
      clear s13 hb2 S9
      generalize (sortB iLt iEq pts).length = l13 at S13 ⊢
      go_wp2_with fail
      refine (Sorted_calls b8 dks.length c8 _ dks y2 (HS8.out.on RStr.firm HB2.out)).mono ?_
      rintro e y3 ⟨g14, k14, rfl, s14, hb3⟩
      have HB3 : Hid (Below wr.heap.size wr y3) := on2 HB2.out hb3
      have S14 : Hid (SlAt RStr 1 16 (fun b => w.heap.size + 1 + 1 < b) y3 g14 _ k14 (sortB sLt sEq dks)) := s14.weak RStr.firm (fun b _ hb => Nat.lt_of_lt_of_le (HB0.out.on HB2.out).sz hb)
      have S9c : Hid (SlAt RStr 1 16 (fun b => w.heap.size + 1 + 1 < b) y3 g9 l9 k9 (sortB sLt sEq nms)) := S9b.out.on RStr.firm hb3
      have S13b : Hid (SlAt RInt 1 8 (fun b => w.heap.size + 1 + 1 < b) y3 g13 l13 k13 (sortB iLt iEq pts)) := S13.out.on RInt.firm hb3
      clear s14 hb3 S9b S13
      generalize (sortB sLt sEq dks).length = l14 at S14 ⊢
      have C3 := HB0.out.on HB3.out
      obtain ⟨q9, f9⟩ := C3.q.2 9 _ rfl
      obtain ⟨q13, f13⟩ := C3.q.2 13 _ rfl
      obtain ⟨q14, f14⟩ := C3.q.2 14 _ rfl
      obtain ⟨W14, hW14⟩ : ∃ W14, W14 = (((y3.setCell ⟨w.heap.size + 1 + 1, 9, none⟩ (.slice g9 l9 k9)).setCell ⟨w.heap.size + 1 + 1, 13, none⟩ (.slice g13 l13 k13)).setCell ⟨w.heap.size + 1 + 1, 14, none⟩ (.slice g14 l14 k14)) := ⟨_, rfl⟩
      have B14 : PB w W14 [.string nn, .slice a1 n1 m1, .slice a2 n2 m2, .bool no, .int .i64 ga, .int .i64 gb, .int .i64 gc, .int .i64 np, .int .i64 nd] [.string ⟨#[]⟩, .slice none 0 0, .slice none 0 0, .bool false, .int .i64 0, .int .i64 0, .int .i64 0, .int .i64 0, .int .i64 0, .slice none 0 0, .int .i64 0, .int .i64 0, .int .i64 0, .slice none 0 0, .slice none 0 0] [.string nn, .slice a1 n1 m1, .slice a2 n2 m2, .bool no, .int .i64 ga, .int .i64 gb, .int .i64 gc, .int .i64 np, .int .i64 nd, .slice g9 l9 k9, .int .i64 ua, .int .i64 ub, .int .i64 uc, .slice g13 l13 k13, .slice g14 l14 k14] := by rw [hW14]; exact ((C3.set 9 _ (by simp)).set 13 _ (by simp)).set 14 _ (by simp)
      have hszq := C3.sz
      clear C3
      have HK : Hid (∀ u, Kept (fun b => w.heap.size + 1 + 1 < b) y3 u → Below w.heap.size w u → InfoAt A (Fresh w) u [.string nn, .slice a1 n1 m1, .slice a2 n2 m2, .bool no, .int .i64 ga, .int .i64 gb, .int .i64 gc, .int .i64 np, .int .i64 nd, .slice g9 l9 k9, .int .i64 ua, .int .i64 ub, .int .i64 uc, .slice g13 l13 k13, .slice g14 l14 k14] (accInfo (nn, nl, nt, no, (ga, gb, gc), np, nd) (nms, (ua, ub, uc), pts, dks))) := fun u hk hb => ⟨[.string nn, .slice a1 n1 m1, .slice a2 n2 m2, .bool no, .int .i64 ga, .int .i64 gb, .int .i64 gc, .int .i64 np, .int .i64 nd], [.slice g9 l9 k9, .int .i64 ua, .int .i64 ub, .int .i64 uc, .slice g13 l13 k13, .slice g14 l14 k14], rfl, RNode.firm.kept hN0.out (Kept.below hb), ⟨[.slice g9 l9 k9], _, rfl, ⟨g9, l9, k9, rfl, ((S9c.out.kept RStr.firm hk).weak RStr.firm (fun b _ hb => show w.heap.size ≤ b by have h1 : w.heap.size + 1 + 1 < b := hb; omega))⟩, ⟨[.int .i64 ua, .int .i64 ub, .int .i64 uc], _, rfl, RRes.mk (x := (ua, ub, uc)), ⟨[.slice g13 l13 k13], _, rfl, ⟨g13, l13, k13, rfl, ((S13b.out.kept RInt.firm hk).weak RInt.firm (fun b _ hb => show w.heap.size ≤ b by have h1 : w.heap.size + 1 + 1 < b := hb; omega))⟩, ⟨g14, l14, k14, rfl, ((S14.out.kept RStr.firm hk).weak RStr.firm (fun b _ hb => show w.heap.size ≤ b by have h1 : w.heap.size + 1 + 1 < b := hb; omega))⟩⟩⟩⟩⟩
      have hgq : ¬ (fun b => w.heap.size + 1 + 1 < b) (w.heap.size + 1 + 1) := Nat.lt_irrefl _
      have hgz : ¬ (fun b => w.heap.size + 1 + 1 < b) (w.heap.size + 1) := fun h => Nat.lt_irrefl _ (Nat.lt_of_le_of_lt (Nat.le_succ _) h)
      have hk14 : Kept (fun b => w.heap.size + 1 + 1 < b) y3 W14 := by rw [hW14]; exact ((Kept.set (p := ⟨w.heap.size + 1 + 1, 9, none⟩) hgq _).trans (Kept.set (p := ⟨w.heap.size + 1 + 1, 13, none⟩) hgq _)).trans (Kept.set (p := ⟨w.heap.size + 1 + 1, 14, none⟩) hgq _)
      have HI : Hid ((Try.prog.info? 41).map (·.size) = some ([.string nn, .slice a1 n1 m1, .slice a2 n2 m2, .bool no, .int .i64 ga, .int .i64 gb, .int .i64 gc, .int .i64 np, .int .i64 nd, .slice g9 l9 k9, .int .i64 ua, .int .i64 ub, .int .i64 uc, .slice g13 l13 k13, .slice g14 l14 k14] : List Value).length) := by unfold Hid; kernel_rfl
      have H1 : Hid ((([.string nn, .slice a1 n1 m1, .slice a2 n2 m2, .bool no, .int .i64 ga, .int .i64 gb, .int .i64 gc, .int .i64 np, .int .i64 nd, .slice g9 l9 k9, .int .i64 ua, .int .i64 ub, .int .i64 uc, .slice g13 l13 k13, .slice g14 l14 k14] : List Value).toArray).all (·.oneCell') = true) := all_oneCell_toArray (InfoAt.one (HK.out _ (Kept.refl _ _) (HB0.out.on HB3.out).b))
      obtain ⟨fs, hfs⟩ : ∃ fs : List Value, fs = [.string nn, .slice a1 n1 m1, .slice a2 n2 m2, .bool no, .int .i64 ga, .int .i64 gb, .int .i64 gc, .int .i64 np, .int .i64 nd, .slice g9 l9 k9, .int .i64 ua, .int .i64 ub, .int .i64 uc, .slice g13 l13 k13, .slice g14 l14 k14] := ⟨_, rfl⟩
      rw [← hfs] at HK B14 HI H1
      have hfl : fs.length = 15 := by rw [hfs]; rfl
      clear hfs
      have HQ : Hid (W14.rangeAt (w.heap.size + 1 + 1) 0 fs) := B14.q.range
      have HZ : Hid (W14.there (w.heap.size + 1) 0 fs.toArray.size) := by have e : fs.toArray.size = 15 := (by simp [hfl]); rw [Hid, e]; exact B14.z.there
      have HRG : Hid ((W14.setCells (w.heap.size + 1) 0 fs).rangeAt (w.heap.size + 1) 0 fs) := World.rangeAt_setCells_same _ _ _ _ (by have e : fs.toArray.size = fs.length := (by simp); have := HZ.out; rwa [e] at this)
      have HBw : Hid (Below w.heap.size w (W14.setCells (w.heap.size + 1) 0 fs)) := below_setCells B14.b (by omega)
      have HE2 : Hid (InfoAt A (Fresh w) (W14.setCells (w.heap.size + 1) 0 fs) fs (ofP (nn, nl, nt, no, (ga, gb, gc), np, nd) L)) := by rw [HE.out]; exact HK.out _ (hk14.trans (kept_setCells hgz)) HBw.out
      have HSZ : Hid (fs.length = fs.toArray.size) := by simp [Hid]
      clear hgq hgz B14 hk14 HK hfl S9c S13b S14 HE HB1 HB2 HB3 HB0 HS6 HS7 HS8 hszq
      go_wp2_with (first | ((rw [← hW14]); (refine wpList_load_mid rfl 41 _ rfl (w.heap.size + 1 + 1) 0 rfl fs _ HQ.out Try.underlying41 rfl HI.out ?_); clear hW14) | (refine wpList_store_mid rfl 41 _ _ rfl (w.heap.size + 1) 0 fs.toArray rfl rfl HZ.out (HSZ.out ▸ HI.out) H1.out ?_) | fail)
      refine bodyPost_ret (v := .agg fs.toArray) (res_cell (p := 4) (ty := 41) rfl _ _ (w.heap.size + 1) fs _ rfl HRG.out Try.underlying41 rfl HI.out) rfl ⟨fs, rfl, HE2.out, HBw.out⟩
end Go.Proofs.Ytddeilhelkfpoaa
namespace Go.Proofs.Ytddeilhelkfpoaa
open Go.RowKit
set_option linter.unusedSimpArgs false
set_option maxRecDepth 100000

theorem infoPod : (Try.prog.info? 37).map (fun i => (i.zero, i.size, i.bytes)) = some (some (.agg #[.string ⟨#[]⟩, .int .i64 0, .slice none 0 0, .int .i64 0, .int .i64 0, .int .i64 0, .slice none 0 0, .slice none 0 0, .slice none 0 0, .slice none 0 0, .slice none 0 0, .slice none 0 0, .slice none 0 0, .slice none 0 0, .string ⟨#[]⟩, .string ⟨#[]⟩]), 16, 296) := by kernel_rfl
theorem sizePod : (Try.prog.info? 37).map (·.size) = some 16 := by kernel_rfl
theorem RPod.lit {A : Where} {w : World} {cs : List Value} {x : PodD} (h : RPod A w cs x) : ∃ v0 v1 v2 v3 v4 v5 v6 v7 v8 v9 v10 v11 v12 v13 v14 v15 : Value, cs = [v0, v1, v2, v3, v4, v5, v6, v7, v8, v9, v10, v11, v12, v13, v14, v15] := by
  obtain ⟨_, _, _, _, _, _, _, _, _, rfl, _⟩ := h.out
  exact ⟨_, _, _, _, _, _, _, _, _, _, _, _, _, _, _, _, rfl⟩
set_option maxHeartbeats 4000000 in
theorem pods_calls (a : Option Addr) (n cap : Nat) (A : Where) (L : List PodD) (w : World) (hL : Hid (SlAt RPod 16 296 A w a n cap L)) : Calls Try.prog 7 #[.slice a n cap] w fun e w' => ∃ a' cap', e = .returned (.slice a' n cap') ∧ SlAt RPod 16 296 (Fresh w) w' a' n cap' L ∧ Below w.heap.size w w' := by
  have hlen := hL.out.len (by decide)
  have hn : Hid (L.length = n) := hL.out.1
  have hbb : Hid (n * 296 ≤ 140737488351232) := hL.out.2.2.2.1
  have HR0 : Hid (Row RPod 16 (Fresh w) w (w.alloc (.cells #[] 37)) 37 (.slice (some ⟨w.heap.size, 0, none⟩) 0 0) (L.take 0)) := Row.start _ w w _ (Below.refl _ _)
  go_enter Try.func7, Try.ntmps7
  go_wp2_with fail
  go_loopw [3, 4] (fun s i wr => ∃ k : Nat, k ≤ n ∧ i = .int .i64 k ∧ Hid (Row RPod 16 (Fresh w) w wr 37 s (L.take k))) (fun _ i _ => n - (intOf i).toNat)
  case atStart => exact ⟨0, Nat.zero_le _, rfl, HR0⟩
  case round =>
    obtain ⟨k, hk, rfl, hrow⟩ := hrel
    by_cases hlt : k < n
    · have hltz : (k : Int) < (n : Int) := by omega
      have hkl : Hid (k < L.length) := by rw [Hid, hn.out]; exact hlt
      have hbw : Below w.heap.size w wr := hrow.out.below
      obtain ⟨B, off, rfl, hB, _, cs, hr, hv⟩ := (hL.out.on RPod.firm hbw).get hlt
      have HV : Hid (wr.rangeAt B (off + k * 16) cs) := hv
      have hi : (Try.prog.info? 37).map (·.size) = some cs.length := by rw [RPod.firm.len hr]; exact sizePod
      have HT : Hid (L.take k ++ [L.getD k default] = L.take (k + 1)) := take_at hkl.out
      have HC := Pod_copy cs A (L.getD k default) wr hr
      have HLb : Hid (((L.take k).length + [L.getD k default].length) * 296 ≤ 140737488355328) := by
        have := bytes_le hbb.out hlt
        rw [Hid, List.length_take, hn.out, List.length_singleton, Nat.min_eq_left (by omega)]
        exact this
      clear hr hv
      generalize L.getD k default = x at HT HC HLb
      go_wp2_with (first | (refine wpList_load_mid rfl 37 _ rfl B (off + k * 16) rfl cs _ HV.out Try.underlying37 rfl hi ?_) | fail)
      refine HC.mono ?_
      rintro e w2 ⟨cs2, rfl, hr2, hb2⟩
      clear HC
      obtain ⟨v0, v1, v2, v3, v4, v5, v6, v7, v8, v9, v10, v11, v12, v13, v14, v15, rfl⟩ := RPod.lit hr2
      have hb3 : Below wr.heap.size wr (w2.alloc (.cells #[v0, v1, v2, v3, v4, v5, v6, v7, v8, v9, v10, v11, v12, v13, v14, v15] 37)) := hb2.alloc hb2.size _
      have HR3 : Hid (Row RPod 16 (Fresh w) w (w2.alloc (.cells #[v0, v1, v2, v3, v4, v5, v6, v7, v8, v9, v10, v11, v12, v13, v14, v15] 37)) 37 u3 (L.take k)) := hrow.out.on RPod.firm hb3
      have HE : RPod (fun b => Fresh w b ∧ Value.ownBlock u3 ≠ some b) (w2.alloc (.cells #[v0, v1, v2, v3, v4, v5, v6, v7, v8, v9, v10, v11, v12, v13, v14, v15] 37)) [v0, v1, v2, v3, v4, v5, v6, v7, v8, v9, v10, v11, v12, v13, v14, v15] x := RPod.firm.weak (RPod.firm.kept hr2 (Kept.alloc _ _ _)) (fun b _ hb => hrow.out.apart (u' := wr) (Nat.le_refl _) b hb)
      have H1 : Hid (∀ y ∈ [v0, v1, v2, v3, v4, v5, v6, v7, v8, v9, v10, v11, v12, v13, v14, v15], y.oneCell' = true) := RPod.firm.one HE
      have HCh : Hid (Chunks RPod 16 (fun b => Fresh w b ∧ Value.ownBlock u3 ≠ some b) (w2.alloc (.cells #[v0, v1, v2, v3, v4, v5, v6, v7, v8, v9, v10, v11, v12, v13, v14, v15] 37)) [v0, v1, v2, v3, v4, v5, v6, v7, v8, v9, v10, v11, v12, v13, v14, v15] [x]) := chunk_one RPod.firm HE
      have HX : Hid (∀ j y, [v0, v1, v2, v3, v4, v5, v6, v7, v8, v9, v10, v11, v12, v13, v14, v15][j]? = some y → (w2.alloc (.cells #[v0, v1, v2, v3, v4, v5, v6, v7, v8, v9, v10, v11, v12, v13, v14, v15] 37)).cell? ((⟨w2.heap.size, 0, none⟩ : Addr).add j) = some y) := one_cells w2 _ 37
      clear HE hb3 hr2 hrow HV
      go_wp2_with (at_builtin; go_must (refine row_append RPod.firm (A := Fresh w) (w0 := w) rfl _ _ 28 37 rfl _ 296 infoPod Try.underlying28 rfl (by decide) (by decide) u3 (L.take k) rfl HR3.out ⟨w2.heap.size, 0, none⟩ 1 1 _ [x] rfl rfl HCh.out HX.out H1.out HLb.out ?_); intro v4 w4 hrow4 hg4)
      rw [HT.out] at hrow4
      go_roundw
      case rel => exact ⟨k + 1, by omega, by go_num, hrow4⟩
      case measure => simp [intOf]; omega
    · have hk' : L.take k = L := List.take_of_length_le (by rw [hn.out]; omega)
      obtain ⟨a', cap', e1, h2⟩ := hrow.out.slF (bytes := 296) RPod.firm (by rw [hk', hn.out]; exact hbb.out)
      rw [hk', hn.out] at e1 h2
      have hb9 := hrow.out.below
      have h2' : Hid (SlAt RPod 16 296 (Fresh w) wr a' n cap' L) := h2
      clear h2 hrow
      subst e1
      go_wp2_with fail
      go_ret
      exact ⟨a', cap', rfl, h2'.out, hb9⟩
end Go.Proofs.Ytddeilhelkfpoaa
