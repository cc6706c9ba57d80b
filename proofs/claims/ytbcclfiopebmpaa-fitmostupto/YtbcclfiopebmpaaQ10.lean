/- quant's split and join of an amount of several things, and the two methods over members: what they return, and that they change nothing that was there. No condition. The document's own Plus, Minus and Fits of amounts of several things: what they return, and that they change nothing that was there. No condition. The document's Of: what a node has of pods. Condition: the arguments lie as is said of them; the pods' ports and claims together are within what an append may ask. The law's 'pods' gives copies of its own. Condition: the slice lies as is said of it. The document's Drop. Condition: the arguments lie as is said of them; the pods' ports and claims together are within what an append may ask. base.Texts and base.Ints give rows of their own. Condition: the slice lies as is said of it. The document's Add. Condition: the arguments lie as is said of them; the lists with what comes are within what an append may ask. What came and went leaves the info as it was. Plain mathematics. No condition. Pods that come one by one, in whatever order: the info of all. Plain mathematics. No condition. Why a pod may not stand on a node, and how many like it may, as plain functions; what follows of them. No condition. The document's Free and Clash. Condition: the arguments lie as is said of them. slices.Index and slices.Contains at texts and at numbers tell whether it is in a list, and change nothing; slices.IndexFunc and slices.ContainsFunc at numbers, over a function that answers as is said of it. Condition: the slice lies as is said of it. -/
import Derived.Test.YtbcclfiopebmpaaQ09
import Derived.Deep.QuietTactic
import Derived.BigQuiet
import Derived.BigRegion
import Derived.Deep.RegionHeld3
import Derived.Deep.DeepCutAuto
import Derived.Outline
import Derived.Handy
import Derived.Test.YtbcclfiopebmpaaQ06
import Derived.Test.YtbcclfiopebmpaaQ07
import Derived.Test.YtbcclfiopebmpaaQ08
namespace Go.Proofs.Ytbcclfiopebmpaa
open Go.RowKit

abbrev res (a b c : Int) : Value := .agg #[.int .i64 a, .int .i64 b, .int .i64 c]

set_option maxHeartbeats 1000000 in
theorem split_calls (a b c : Int) (w : World) : Calls Try.prog 54 #[.agg #[.int .i64 a, .int .i64 b, .int .i64 c]] w fun e w' => e = .returned (.agg #[.int .i64 a, .int .i64 b, .int .i64 c]) ∧ w' = ((w.alloc (.cells #[.int .i64 a, .int .i64 b, .int .i64 c] 24)).alloc (.cells #[.int .i64 a, .int .i64 b, .int .i64 c] 100)) := by
  go_enter Try.func54, Try.ntmps54
  go_wp2
  exact bodyPost_ret (v := .agg #[.int .i64 a, .int .i64 b, .int .i64 c]) (by simp [results, Try.results54, go_sem]) rfl ⟨rfl, rfl⟩
set_option maxHeartbeats 1000000 in
theorem join_calls (a b c : Int) (w : World) : Calls Try.prog 55 #[.agg #[.int .i64 a, .int .i64 b, .int .i64 c]] w fun e w' => e = .returned (.agg #[.int .i64 a, .int .i64 b, .int .i64 c]) ∧ w' = ((w.alloc (.cells #[.int .i64 a, .int .i64 b, .int .i64 c] 100)).alloc (.cells #[.int .i64 a, .int .i64 b, .int .i64 c] 24)) := by
  go_enter Try.func55, Try.ntmps55
  go_wp2
  exact bodyPost_ret (v := .agg #[.int .i64 a, .int .i64 b, .int .i64 c]) (by simp [results, Try.results55, go_sem]) rfl ⟨rfl, rfl⟩

theorem join_below (a b c : Int) (w : World) : Calls Try.prog 55 #[.agg #[.int .i64 a, .int .i64 b, .int .i64 c]] w fun e w' => e = .returned (.agg #[.int .i64 a, .int .i64 b, .int .i64 c]) ∧ Below w.heap.size w w' :=
  (join_calls a b c w).mono fun e w' ⟨he, hw⟩ => ⟨he, by rw [hw]; exact ((Below.refl _ _).alloc (Nat.le_refl _) _).alloc (by simp) _⟩

set_option maxHeartbeats 400000 in
theorem plus_calls (a b : Int) (w : World) : Calls Try.prog 38 #[.int .i64 a, .int .i64 b] w fun e w' => e = .returned (.int .i64 (addI a b)) ∧ w' = w := by
  go_enter Try.func38, Try.ntmps38
  go_wp2_with (go_at_call 56; refine (add_calls _ _ _).mono ?_; rintro e w' ⟨rfl, rfl⟩)
  go_ret
  exact ⟨rfl, rfl⟩
set_option maxHeartbeats 400000 in
theorem minus_calls (a b : Int) (w : World) : Calls Try.prog 67 #[.int .i64 a, .int .i64 b] w fun e w' => e = .returned (.int .i64 (subI a b)) ∧ w' = w := by
  go_enter Try.func67, Try.ntmps67
  go_wp2_with (go_at_call 74; refine (sub_calls _ _ _).mono ?_; rintro e w' ⟨rfl, rfl⟩)
  go_ret
  exact ⟨rfl, rfl⟩

/-- block B of the world holds just these three numbers -/
def Holds3 (w : World) (B : Nat) (a b c : Int) : Prop := w.cell? ⟨B, 0, none⟩ = some (.int .i64 a) ∧ w.cell? ⟨B, 1, none⟩ = some (.int .i64 b) ∧ w.cell? ⟨B, 2, none⟩ = some (.int .i64 c)

end Go.Proofs.Ytbcclfiopebmpaa
namespace Go.Proofs.Ytbcclfiopebmpaa
open Go.RowKit
set_option maxRecDepth 100000

set_option maxHeartbeats 4000000 in
theorem rplus_calls (a b c x y z : Int) (w : World) : Calls Try.prog 36 #[.agg #[.int .i64 a, .int .i64 b, .int .i64 c], .agg #[.int .i64 x, .int .i64 y, .int .i64 z]] w fun e w' => e = .returned (.agg #[.int .i64 (addI a x), .int .i64 (addI b y), .int .i64 (addI c z)]) ∧ Below w.heap.size w w' := by
  go_enter Try.func36, Try.ntmps36
  go_wp2_with fail
  go_region_held3 (fun w' => w'.cell? ⟨w.heap.size, 0, none⟩ = some (.int .i64 a) ∧ w'.cell? ⟨w.heap.size, 1, none⟩ = some (.int .i64 b) ∧ w'.cell? ⟨w.heap.size, 2, none⟩ = some (.int .i64 c) ∧ w'.cell? ⟨w.heap.size + 1, 0, none⟩ = some (.int .i64 x) ∧ w'.cell? ⟨w.heap.size + 1, 1, none⟩ = some (.int .i64 y) ∧ w'.cell? ⟨w.heap.size + 1, 2, none⟩ = some (.int .i64 z)) ((refine ⟨?_, ?_, ?_, ?_, ?_, ?_⟩) <;> (simp [go_sem]; done))
    (first | (go_at_call 53; refine (radd_calls _ _ _).mono ?_; rintro e w' ⟨rfl, rfl⟩))
  go_wp2_with fail
  exact bodyPost_ret (v := .agg #[.int .i64 (addI a x), .int .i64 (addI b y), .int .i64 (addI c z)]) (by simp [results, Try.results36, go_sem]) rfl ⟨rfl, by go_grown⟩
set_option maxHeartbeats 4000000 in
theorem rminus_calls (a b c x y z : Int) (w : World) : Calls Try.prog 49 #[.agg #[.int .i64 a, .int .i64 b, .int .i64 c], .agg #[.int .i64 x, .int .i64 y, .int .i64 z]] w fun e w' => e = .returned (.agg #[.int .i64 (subI a x), .int .i64 (subI b y), .int .i64 (subI c z)]) ∧ Below w.heap.size w w' := by
  go_enter Try.func49, Try.ntmps49
  go_wp2_with fail
  go_region_held3 (fun w' => w'.cell? ⟨w.heap.size, 0, none⟩ = some (.int .i64 a) ∧ w'.cell? ⟨w.heap.size, 1, none⟩ = some (.int .i64 b) ∧ w'.cell? ⟨w.heap.size, 2, none⟩ = some (.int .i64 c) ∧ w'.cell? ⟨w.heap.size + 1, 0, none⟩ = some (.int .i64 x) ∧ w'.cell? ⟨w.heap.size + 1, 1, none⟩ = some (.int .i64 y) ∧ w'.cell? ⟨w.heap.size + 1, 2, none⟩ = some (.int .i64 z)) ((refine ⟨?_, ?_, ?_, ?_, ?_, ?_⟩) <;> (simp [go_sem]; done))
    (first | (go_at_call 61; refine (rsub_calls _ _ _).mono ?_; rintro e w' ⟨rfl, rfl⟩))
  go_wp2_with fail
  exact bodyPost_ret (v := .agg #[.int .i64 (subI a x), .int .i64 (subI b y), .int .i64 (subI c z)]) (by simp [results, Try.results49, go_sem]) rfl ⟨rfl, by go_grown⟩

theorem ret_b {a b : Bool} (h : a = b) : Ending.returned (.bool a) = .returned (.bool b) := by rw [h]
/-- no member of the first is above the second's -/
def fitsB (a b c x y z : Int) : Bool := decide (clampI a ≤ clampI x) && decide (clampI b ≤ clampI y) && decide (clampI c ≤ clampI z)

end Go.Proofs.Ytbcclfiopebmpaa
namespace Go.Proofs.Ytbcclfiopebmpaa
open Go.RowKit
set_option linter.unusedSimpArgs false
set_option maxRecDepth 100000

/-- The blocks, and the three rows. -/
structure OfSt (w X u : World) (N Z Q : List Value) (s6 s7 s8 : Value) (A6 : List ByteArray) (A7 : List Int) (A8 : List ByteArray) : Prop where
  b : PB w X N Z Q
  r6 : Row RStr 1 (fun _ => False) X u 9 s6 A6
  r7 : Row RInt 1 (fun _ => False) X u 3 s7 A7
  r8 : Row RStr 1 (fun _ => False) X u 9 s8 A8
  d67 : ∀ b, s6.ownBlock = some b → s7.ownBlock ≠ some b
  d68 : ∀ b, s6.ownBlock = some b → s8.ownBlock ≠ some b
  d78 : ∀ b, s7.ownBlock = some b → s8.ownBlock ≠ some b
section
variable {w X u : World} {N Z Q : List Value} {s6 s7 s8 : Value} {A6 : List ByteArray} {A7 : List Int} {A8 : List ByteArray}
theorem OfSt.on (h : OfSt w X u N Z Q s6 s7 s8 A6 A7 A8) {u' : World} (hb : Below u.heap.size u u') : OfSt w X u' N Z Q s6 s7 s8 A6 A7 A8 :=
  ⟨h.b, h.r6.on RStr.firm hb, h.r7.on RInt.firm hb, h.r8.on RStr.firm hb, h.d67, h.d68, h.d78⟩
theorem OfSt.box (h : OfSt w X u N Z Q s6 s7 s8 A6 A7 A8) : PB w u N Z Q := h.b.on h.r6.below
theorem OfSt.app6 (h : OfSt w X u N Z Q s6 s7 s8 A6 A7 A8) {u' : World} {v : Value} {B : List ByteArray} (hr : Row RStr 1 (fun _ => False) X u' 9 v B) (hg : u.grownBy u' s6.ownBlock) (hp : v.ownBlock = s6.ownBlock ∨ v.ownBlock = some u.heap.size) : OfSt w X u' N Z Q v s7 s8 B A7 A8 := by
  refine ⟨h.b, hr, h.r7.grown RInt.firm hg (fun b hb => ⟨(h.r6.lt hb).1, h.d67 b hb, id⟩), h.r8.grown RStr.firm hg (fun b hb => ⟨(h.r6.lt hb).1, h.d68 b hb, id⟩), fun b hb => ?_, fun b hb => ?_, h.d78⟩
  · rcases hp with hp | hp
    · exact h.d67 b (hp ▸ hb)
    · intro h7; have := (h.r7.lt h7).2; rw [hp] at hb; injection hb with hb; omega
  · rcases hp with hp | hp
    · exact h.d68 b (hp ▸ hb)
    · intro h7; have := (h.r8.lt h7).2; rw [hp] at hb; injection hb with hb; omega
theorem OfSt.app7 (h : OfSt w X u N Z Q s6 s7 s8 A6 A7 A8) {u' : World} {v : Value} {B : List Int} (hr : Row RInt 1 (fun _ => False) X u' 3 v B) (hg : u.grownBy u' s7.ownBlock) (hp : v.ownBlock = s7.ownBlock ∨ v.ownBlock = some u.heap.size) : OfSt w X u' N Z Q s6 v s8 A6 B A8 := by
  refine ⟨h.b, h.r6.grown RStr.firm hg (fun b hb => ⟨(h.r7.lt hb).1, fun e => h.d67 b e hb, id⟩), hr, h.r8.grown RStr.firm hg (fun b hb => ⟨(h.r7.lt hb).1, h.d78 b hb, id⟩), fun b hb h7 => ?_, h.d68, fun b hb => ?_⟩
  · rcases hp with hp | hp
    · exact h.d67 b hb (hp ▸ h7)
    · have := (h.r6.lt hb).2; rw [hp] at h7; injection h7 with h7; omega
  · rcases hp with hp | hp
    · exact h.d78 b (hp ▸ hb)
    · intro h7; have := (h.r8.lt h7).2; rw [hp] at hb; injection hb with hb; omega
theorem OfSt.app8 (h : OfSt w X u N Z Q s6 s7 s8 A6 A7 A8) {u' : World} {v : Value} {B : List ByteArray} (hr : Row RStr 1 (fun _ => False) X u' 9 v B) (hg : u.grownBy u' s8.ownBlock) (hp : v.ownBlock = s8.ownBlock ∨ v.ownBlock = some u.heap.size) : OfSt w X u' N Z Q s6 s7 v A6 A7 B := by
  refine ⟨h.b, h.r6.grown RStr.firm hg (fun b hb => ⟨(h.r8.lt hb).1, fun e => h.d68 b e hb, id⟩), h.r7.grown RInt.firm hg (fun b hb => ⟨(h.r8.lt hb).1, fun e => h.d78 b e hb, id⟩), hr, h.d67, fun b hb h7 => ?_, fun b hb h7 => ?_⟩
  · rcases hp with hp | hp
    · exact h.d68 b hb (hp ▸ h7)
    · have := (h.r6.lt hb).2; rw [hp] at h7; injection h7 with h7; omega
  · rcases hp with hp | hp
    · exact h.d78 b hb (hp ▸ h7)
    · have := (h.r7.lt hb).2; rw [hp] at h7; injection h7 with h7; omega
theorem OfSt.set (h : OfSt w X u N Z Q s6 s7 s8 A6 A7 A8) (i : Nat) (v : Value) (hi : i < Q.length) : OfSt w (X.setCell ⟨w.heap.size + 1 + 1, i, none⟩ v) (u.setCell ⟨w.heap.size + 1 + 1, i, none⟩ v) N Z (Q.set i v) s6 s7 s8 A6 A7 A8 :=
  ⟨h.b.set i v hi, h.r6.both RStr.firm h.b.sz id v, h.r7.both RInt.firm h.b.sz id v, h.r8.both RStr.firm h.b.sz id v, h.d67, h.d68, h.d78⟩
end
def UsS (w : World) (D off : Nat) (ua ub uc wa wb wc : Int) (u : World) : Prop :=
  u.cell? ⟨w.heap.size + 1 + 1, 10, none⟩ = some (.int .i64 ua) ∧ u.cell? ⟨w.heap.size + 1 + 1, 11, none⟩ = some (.int .i64 ub) ∧ u.cell? ⟨w.heap.size + 1 + 1, 12, none⟩ = some (.int .i64 uc) ∧ u.cell? ⟨D, off + 3, none⟩ = some (.int .i64 wa) ∧ u.cell? ⟨D, off + 4, none⟩ = some (.int .i64 wb) ∧ u.cell? ⟨D, off + 5, none⟩ = some (.int .i64 wc)
end Go.Proofs.Ytbcclfiopebmpaa
namespace Go.Proofs.Ytbcclfiopebmpaa
open Go.RowKit
set_option linter.unusedSimpArgs false
set_option maxRecDepth 100000

theorem infoPod : (Try.prog.info? 33).map (fun i => (i.zero, i.size, i.bytes)) = some (some (.agg #[.string ⟨#[]⟩, .int .i64 0, .slice none 0 0, .int .i64 0, .int .i64 0, .int .i64 0, .slice none 0 0, .slice none 0 0, .slice none 0 0, .slice none 0 0, .slice none 0 0, .slice none 0 0, .slice none 0 0, .slice none 0 0, .string ⟨#[]⟩, .string ⟨#[]⟩]), 16, 296) := by kernel_rfl
theorem sizePod : (Try.prog.info? 33).map (·.size) = some 16 := by kernel_rfl
theorem RPod.lit {A : Where} {w : World} {cs : List Value} {x : PodD} (h : RPod A w cs x) : ∃ v0 v1 v2 v3 v4 v5 v6 v7 v8 v9 v10 v11 v12 v13 v14 v15 : Value, cs = [v0, v1, v2, v3, v4, v5, v6, v7, v8, v9, v10, v11, v12, v13, v14, v15] := by
  obtain ⟨_, _, _, _, _, _, _, _, _, rfl, _⟩ := h.out
  exact ⟨_, _, _, _, _, _, _, _, _, _, _, _, _, _, _, _, rfl⟩
end Go.Proofs.Ytbcclfiopebmpaa
namespace Go.Proofs.Ytbcclfiopebmpaa
open Go.RowKit
set_option linter.unusedSimpArgs false
set_option maxRecDepth 100000

def zeroInfo : InfoD := ((⟨#[]⟩, [], [], false, (0, 0, 0), 0, 0), [], (0, 0, 0), [], [])
def dropP (i : InfoD) (p : PodD) (rest : List PodD) : InfoD × Int := if hasB sEq i.2.1 p.1 = true then (ofP i.1 (restP i p rest), 0) else (zeroInfo, 5)
def keepP (i : InfoD) (p q : PodD) : Bool := !sEq q.1 p.1 && hasB sEq i.2.1 q.1
theorem zeroInfo_at (A F : Where) (w : World) : InfoAt A F w [.string ⟨#[]⟩, .slice none 0 0, .slice none 0 0, .bool false, .int .i64 0, .int .i64 0, .int .i64 0, .int .i64 0, .int .i64 0, .slice none 0 0, .int .i64 0, .int .i64 0, .int .i64 0, .slice none 0 0, .slice none 0 0] zeroInfo := by
  have z : ∀ {α : Type} [Inhabited α] (Rr : Rep α) (k by_ : Nat) (B : Where), RSl Rr k by_ B w [.slice none 0 0] [] := fun Rr k by_ B => ⟨none, 0, 0, rfl, SlAt.nil _ _ _ _ (fun _ => rfl)⟩
  exact ⟨[.string ⟨#[]⟩, .slice none 0 0, .slice none 0 0, .bool false, .int .i64 0, .int .i64 0, .int .i64 0, .int .i64 0, .int .i64 0], [.slice none 0 0, .int .i64 0, .int .i64 0, .int .i64 0, .slice none 0 0, .slice none 0 0], rfl,
    RNode.mk (x := (⟨#[]⟩, [], [], false, (0, 0, 0), 0, 0)) (h1 := (none, 0, 0)) (h2 := (none, 0, 0)) (by decide) (SlAt.nil _ _ _ _ (fun _ => rfl)) (SlAt.nil _ _ _ _ (fun _ => rfl)),
    ⟨[.slice none 0 0], _, rfl, z RStr 1 16 F, ⟨[.int .i64 0, .int .i64 0, .int .i64 0], _, rfl, RRes.mk (x := (0, 0, 0)), ⟨[.slice none 0 0], _, rfl, z RInt 1 8 F, z RStr 1 16 F⟩⟩⟩⟩
theorem sumBy_filter {α : Type} (f : α → Nat) (p : α → Bool) (L : List α) : sumBy f (L.filter p) ≤ sumBy f L := by
  induction L with
  | nil => simp [sumBy]
  | cons a L ih =>
    simp only [sumBy, List.filter_cons, List.map_cons, List.sum_cons] at ih ⊢
    split
    · simp only [List.map_cons, List.sum_cons]; omega
    · omega
theorem FitsP.filter {L : List PodD} (h : FitsP L) (p : PodD → Bool) : FitsP (L.filter p) := by
  have h1 := sumBy_filter (fun p => (pPorts p).length) p L
  have h2 := sumBy_filter (fun p => (pClaims p).length) p L
  obtain ⟨h3, h4⟩ := h
  exact ⟨by omega, by omega⟩
theorem filter_succ {α : Type} [Inhabited α] (p : α → Bool) (L : List α) {k : Nat} (hk : k < L.length) : (L.take (k + 1)).filter p = (L.take k).filter p ++ (if p (L.getD k default) = true then [L.getD k default] else []) := by
  rw [← take_at hk, List.filter_append]
  congr 1
  simp only [List.filter_cons, List.filter_nil]
/-- The blocks of two parameters and of the result. -/
structure PB3 (w u : World) (P Y Z : List Value) : Prop where
  p : BoxL u w.heap.size P
  y : BoxL u (w.heap.size + 1) Y
  z : BoxL u (w.heap.size + 1 + 1) Z
  b : Below w.heap.size w u
theorem PB3.on {w u u' : World} {P Y Z : List Value} (h : PB3 w u P Y Z) (hb : Below u.heap.size u u') : PB3 w u' P Y Z := ⟨h.p.on hb, h.y.on hb, h.z.on hb, on2 h.b hb⟩
theorem PB3.sz {w u : World} {P Y Z : List Value} (h : PB3 w u P Y Z) : w.heap.size + 1 + 1 < u.heap.size := h.z.1
end Go.Proofs.Ytbcclfiopebmpaa
namespace Go.Proofs.Ytbcclfiopebmpaa
open Go.RowKit
set_option linter.unusedSimpArgs false
set_option maxRecDepth 100000

set_option maxHeartbeats 1000000 in
theorem Texts_row (a : Option Addr) (n cap : Nat) (A : Where) (L : List ByteArray) (w : World) (hL : Hid (SlAt RStr 1 16 A w a n cap L)) : Calls Try.prog 22 #[.slice a n cap] w fun e w' => ∃ v, e = .returned v ∧ Row RStr 1 (fun _ => False) w w' 9 v L := by
  have hb0 : Below w.heap.size w (w.alloc (.cells #[] 9)) := by go_grown
  have HR : Hid (Row RStr 1 (fun _ => False) w (w.alloc (.cells #[] 9)) 9 (.slice (some ⟨w.heap.size, 0, none⟩) 0 0) []) := Row.start _ w w _ (Below.refl _ _)
  have HN : Hid (Src RStr 1 (fun b => False ∧ Value.ownBlock (.slice (some ⟨w.heap.size, 0, none⟩) 0 0) ≠ some b) (w.alloc (.cells #[] 9)) a n L) := ((hL.out.on RStr.firm hb0).src RStr.firm).flat RStr.flat
  have HB : Hid ((([] : List ByteArray).length + L.length) * 16 ≤ 140737488355328) := by have h1 := hL.out.2.2.2.1; have h2 := hL.out.1; rw [Hid, h2]; simp; omega
  clear hb0 hL
  go_enter Try.func22, Try.ntmps22
  go_wp2_with (at_builtin; go_must (refine row_appendS RStr.firm (A := (fun _ => False)) (w0 := w) rfl _ _ 31 9 rfl _ 16 infostr Try.underlying31 rfl (by decide) (by decide) _ [] rfl HR.out a n cap L rfl HN.out HB.out ?_); intro v1 w1 hrow1 hg1)
  go_ret
  exact ⟨v1, rfl, by simpa using hrow1⟩
set_option maxHeartbeats 1000000 in
theorem Ints_row (a : Option Addr) (n cap : Nat) (A : Where) (L : List Int) (w : World) (hL : Hid (SlAt RInt 1 8 A w a n cap L)) : Calls Try.prog 20 #[.slice a n cap] w fun e w' => ∃ v, e = .returned v ∧ Row RInt 1 (fun _ => False) w w' 3 v L := by
  have hb0 : Below w.heap.size w (w.alloc (.cells #[] 3)) := by go_grown
  have HR : Hid (Row RInt 1 (fun _ => False) w (w.alloc (.cells #[] 3)) 3 (.slice (some ⟨w.heap.size, 0, none⟩) 0 0) []) := Row.start _ w w _ (Below.refl _ _)
  have HN : Hid (Src RInt 1 (fun b => False ∧ Value.ownBlock (.slice (some ⟨w.heap.size, 0, none⟩) 0 0) ≠ some b) (w.alloc (.cells #[] 3)) a n L) := ((hL.out.on RInt.firm hb0).src RInt.firm).flat RInt.flat
  have HB : Hid ((([] : List Int).length + L.length) * 8 ≤ 140737488355328) := by have h1 := hL.out.2.2.2.1; have h2 := hL.out.1; rw [Hid, h2]; simp; omega
  clear hb0 hL
  go_enter Try.func20, Try.ntmps20
  go_wp2_with (at_builtin; go_must (refine row_appendS RInt.firm (A := (fun _ => False)) (w0 := w) rfl _ _ 28 3 rfl _ 8 infoint Try.underlying28 rfl (by decide) (by decide) _ [] rfl HR.out a n cap L rfl HN.out HB.out ?_); intro v1 w1 hrow1 hg1)
  go_ret
  exact ⟨v1, rfl, by simpa using hrow1⟩
end Go.Proofs.Ytbcclfiopebmpaa
namespace Go.Proofs.Ytbcclfiopebmpaa
open Go.RowKit
set_option linter.unusedSimpArgs false
set_option maxRecDepth 100000

theorem want_yes {c : Prop} [Decidable c] {A B : Prop} (h : c) (k : A) : if c then A else B := by rw [if_pos h]; exact k
theorem at_world {K : Act → World → Prop} {a : Act} {u W : World} (h : W = u) (k : K a W) : K a u := h ▸ k
def addE (i : InfoD) (p : PodD) : InfoD × Int := if hasB sEq i.2.1 p.1 = true then (zeroInfo, 6) else (addP i p, 0)
def FitsA (i : InfoD) (p : PodD) : Prop := (i.2.1.length + 1) * 16 ≤ 140737488351232 ∧ (i.2.2.2.1.length + (pPorts p).length) * 8 ≤ 140737488351232 ∧ (i.2.2.2.2.length + (pClaims p).length) * 16 ≤ 140737488351232
def AdS (w : World) (P Y : List Value) (u : World) : Prop := BoxL u w.heap.size P ∧ BoxL u (w.heap.size + 1) Y
end Go.Proofs.Ytbcclfiopebmpaa
namespace Go.Proofs.Ytbcclfiopebmpaa
open Go.RowKit
set_option linter.unusedSimpArgs false

theorem mem_insB {α : Type} {lt eq : α → α → Bool} (he : ∀ a b, eq a b = true → a = b) (s x : α) : ∀ L : List α, x ∈ insB lt eq L s ↔ x ∈ L ∨ x = s
  | [] => by simp [insB]
  | y :: L => by
    have ih := mem_insB (lt := lt) he s x L
    unfold insB
    split
    · simp only [List.mem_cons, ih]
      constructor
      · rintro (h | h | h)
        · exact .inl (.inl h)
        · exact .inl (.inr h)
        · exact .inr h
      · rintro ((h | h) | h)
        · exact .inl h
        · exact .inr (.inl h)
        · exact .inr (.inr h)
    · split
      · rename_i h1 h2
        have := he _ _ h2
        subst this
        simp only [List.mem_cons]
        constructor
        · intro h; exact .inl h
        · rintro (h | h)
          · exact h
          · exact .inl h
      · simp only [List.mem_cons]
        constructor
        · rintro (h | h | h)
          · exact .inr h
          · exact .inl (.inl h)
          · exact .inl (.inr h)
        · rintro ((h | h) | h)
          · exact .inr (.inl h)
          · exact .inr (.inr h)
          · exact .inl h
theorem mem_foldB {α : Type} {lt eq : α → α → Bool} (he : ∀ a b, eq a b = true → a = b) (x : α) : ∀ (L M : List α), x ∈ L.foldl (insB lt eq) M ↔ x ∈ M ∨ x ∈ L
  | [], M => by simp
  | y :: L, M => by
    rw [List.foldl_cons, mem_foldB he x L (insB lt eq M y), mem_insB he]
    simp only [List.mem_cons]
    constructor
    · rintro ((h | h) | h)
      · exact .inl h
      · exact .inr (.inl h)
      · exact .inr (.inr h)
    · rintro (h | h | h)
      · exact .inl (.inl h)
      · exact .inl (.inr h)
      · exact .inr h
theorem mem_sortB {α : Type} {lt eq : α → α → Bool} (he : ∀ a b, eq a b = true → a = b) (x : α) (L : List α) : x ∈ sortB lt eq L ↔ x ∈ L := by
  unfold sortB; rw [mem_foldB he]; simp
theorem hasB_iff {α : Type} {eq : α → α → Bool} (he : ∀ a b, eq a b = true ↔ a = b) (L : List α) (s : α) : hasB eq L s = true ↔ s ∈ L := by
  unfold hasB
  rw [List.any_eq_true]
  constructor
  · rintro ⟨x, h1, h2⟩; rw [← (he x s).1 h2]; exact h1
  · intro h; exact ⟨s, h, (he s s).2 rfl⟩
theorem hasS_iff (L : List ByteArray) (s : ByteArray) : hasB sEq L s = true ↔ s ∈ L := hasB_iff sEq_iff L s
theorem iEq_iff (a b : Int) : iEq a b = true ↔ a = b := by simp [iEq]
theorem mem_sorted (x : ByteArray) (L : List ByteArray) : x ∈ sortB sLt sEq L ↔ x ∈ L := mem_sortB (fun a b h => (sEq_iff a b).1 h) x L
theorem acc_names (s : ByteArray) : ∀ (L : List PodD) (a : AccD), s ∈ (L.foldl ofStep a).1 ↔ s ∈ a.1 ∨ ∃ p ∈ L, p.1 = s
  | [], a => by simp
  | p :: L, a => by
    rw [List.foldl_cons, acc_names s L (ofStep a p)]
    have h : s ∈ (ofStep a p).1 ↔ s ∈ a.1 ∨ p.1 = s := by
      unfold ofStep
      split
      · rename_i h
        rw [hasS_iff] at h
        constructor
        · exact .inl
        · rintro (h1 | h1)
          · exact h1
          · rw [← h1]; exact h
      · simp only [List.mem_append, List.mem_singleton]
        constructor
        · rintro (h1 | h1)
          · exact .inl h1
          · exact .inr h1.symm
        · rintro (h1 | h1)
          · exact .inl h1
          · exact .inr h1.symm
    rw [h]
    simp only [List.mem_cons, exists_eq_or_imp, or_assoc]
theorem of_names (n : NodeD) (L : List PodD) (s : ByteArray) : hasB sEq (ofP n L).2.1 s = true ↔ ∃ p ∈ L, p.1 = s := by
  rw [hasS_iff]
  show s ∈ sortB sLt sEq (ofAcc L).1 ↔ _
  rw [mem_sorted]
  unfold ofAcc
  rw [acc_names]
  simp
theorem add_names (i : InfoD) (p : PodD) (s : ByteArray) : hasB sEq (addP i p).2.1 s = true ↔ hasB sEq i.2.1 s = true ∨ s = p.1 := by
  rw [hasS_iff, hasS_iff]
  show s ∈ sortB sLt sEq (i.2.1 ++ [p.1]) ↔ _
  rw [mem_sorted]
  simp
/-- Those that are left are those that were there. -/
theorem rest_back (n : NodeD) (L : List PodD) (p : PodD) (h : hasB sEq (ofP n L).2.1 p.1 = false) : restP (addP (ofP n L) p) p (L ++ [p]) = L := by
  unfold restP
  rw [List.filter_append]
  have h1 : [p].filter (fun q => !sEq q.1 p.1 && hasB sEq (addP (ofP n L) p).2.1 q.1) = [] := by simp [sEq_self]
  rw [h1, List.append_nil]
  rw [List.filter_eq_self]
  intro q hq
  have h2 : hasB sEq (ofP n L).2.1 q.1 = true := (of_names n L q.1).2 ⟨q, hq, rfl⟩
  have h3 : sEq q.1 p.1 = false := by
    rw [← Bool.not_eq_true, sEq_iff]
    intro e
    rw [e] at h2
    rw [h2] at h
    cases h
  rw [h3, (add_names _ _ _).2 (.inl h2)]
  rfl
theorem back_plain (n : NodeD) (L : List PodD) (p : PodD) (h : hasB sEq (ofP n L).2.1 p.1 = false) : dropP (addP (ofP n L) p) p (L ++ [p]) = (ofP n L, 0) := by
  have h1 : hasB sEq (addP (ofP n L) p).2.1 p.1 = true := (add_names _ _ _).2 (.inr rfl)
  unfold dropP
  rw [if_pos h1, rest_back n L p h]
  rfl
end Go.Proofs.Ytbcclfiopebmpaa
namespace Go.Proofs.Ytbcclfiopebmpaa
open Go.RowKit
set_option linter.unusedSimpArgs false

theorem bl_irr : ∀ a : List UInt8, Op.bytesLess a a = false
  | [] => rfl
  | a :: x => by simp [Op.bytesLess, bl_irr x]
theorem bl_tot : ∀ a b : List UInt8, a ≠ b → Op.bytesLess b a = !Op.bytesLess a b
  | [], [], h => absurd rfl h
  | [], _ :: _, _ => rfl
  | _ :: _, [], _ => rfl
  | a :: x, b :: y, h => by
    by_cases e : a = b
    · subst e
      have ih := bl_tot x y (fun e => h (by rw [e]))
      simp [Op.bytesLess, ih]
    · have hne : a.toNat ≠ b.toNat := fun h' => e (UInt8.toNat_inj.1 h')
      by_cases hl : a < b
      · have h1 : ¬ b < a := fun h' => by have p : a.toNat < b.toNat := hl; have q : b.toNat < a.toNat := h'; omega
        have e2 : ¬ b = a := fun e' => e e'.symm
        simp [Op.bytesLess, hl, h1, e2]
      · have h1 : b < a := by
          show b.toNat < a.toNat
          have : ¬ a.toNat < b.toNat := hl
          omega
        simp [Op.bytesLess, hl, h1, e]
theorem bl_trans : ∀ a b c : List UInt8, Op.bytesLess a b = true → Op.bytesLess b c = true → Op.bytesLess a c = true
  | _, [], _, h, _ => by simp [Op.bytesLess] at h
  | _, _ :: _, [], _, h => by simp [Op.bytesLess] at h
  | [], _ :: _, _ :: _, _, _ => rfl
  | a :: x, b :: y, c :: z, h1, h2 => by
    simp only [Op.bytesLess, Bool.or_eq_true, Bool.and_eq_true, decide_eq_true_eq, beq_iff_eq] at h1 h2 ⊢
    rcases h1 with h1 | ⟨rfl, h1⟩ <;> rcases h2 with h2 | ⟨rfl, h2⟩
    · exact .inl (UInt8.lt_trans h1 h2)
    · exact .inl h1
    · exact .inl h2
    · exact .inr ⟨rfl, bl_trans x y z h1 h2⟩
section
variable {α : Type} {lt eq : α → α → Bool}
structure OrdB (lt eq : α → α → Bool) : Prop where
  eqi : ∀ a b, eq a b = true ↔ a = b
  irr : ∀ a, lt a a = false
  tr : ∀ a b c, lt a b = true → lt b c = true → lt a c = true
  tot : ∀ a b, a ≠ b → lt a b = true ∨ lt b a = true
def UpB (lt : α → α → Bool) (L : List α) : Prop := L.Pairwise (fun a b => lt a b = true)
theorem UpB.ins (h : OrdB lt eq) (s : α) : ∀ L : List α, UpB lt L → UpB lt (insB lt eq L s)
  | [], _ => by simp [insB, UpB]
  | x :: xs, hL => by
    obtain ⟨h1, h2⟩ := List.pairwise_cons.1 hL
    unfold insB
    split
    · rename_i h3
      refine List.pairwise_cons.2 ⟨fun y hy => ?_, UpB.ins h s xs h2⟩
      rcases (mem_insB (fun a b e => (h.eqi a b).1 e) s y xs).1 hy with h4 | h4
      · exact h1 y h4
      · rw [h4]; exact h3
    · split
      · exact hL
      · rename_i h3 h4
        have hne : x ≠ s := fun e => h4 ((h.eqi x s).2 e)
        have hlt : lt s x = true := (h.tot x s hne).resolve_left h3
        refine List.pairwise_cons.2 ⟨fun y hy => ?_, hL⟩
        rcases List.mem_cons.1 hy with h5 | h5
        · rw [h5]; exact hlt
        · exact h.tr s x y hlt (h1 y h5)
theorem UpB.sort (h : OrdB lt eq) (L : List α) : UpB lt (sortB lt eq L) := by
  unfold sortB
  suffices H : ∀ (L M : List α), UpB lt M → UpB lt (L.foldl (insB lt eq) M) from H L [] List.Pairwise.nil
  intro L
  induction L with
  | nil => intro M hM; exact hM
  | cons x L ih => intro M hM; exact ih _ (UpB.ins h x M hM)
theorem UpB.one (h : OrdB lt eq) : ∀ L M : List α, UpB lt L → UpB lt M → (∀ x, x ∈ L ↔ x ∈ M) → L = M
  | [], [], _, _, _ => rfl
  | [], y :: ys, _, _, hm => absurd ((hm y).2 List.mem_cons_self) (by simp)
  | x :: xs, [], _, _, hm => absurd ((hm x).1 List.mem_cons_self) (by simp)
  | x :: xs, y :: ys, hL, hM, hm => by
    obtain ⟨a1, a2⟩ := List.pairwise_cons.1 hL
    obtain ⟨b1, b2⟩ := List.pairwise_cons.1 hM
    have e : x = y := by
      rcases List.mem_cons.1 ((hm x).1 List.mem_cons_self) with h1 | h1
      · exact h1
      · rcases List.mem_cons.1 ((hm y).2 List.mem_cons_self) with h2 | h2
        · exact h2.symm
        · have := h.tr x y x (a1 y h2) (b1 x h1)
          rw [h.irr] at this
          cases this
    subst e
    have ne : ∀ z, lt x z = true → z ≠ x := fun z hz e => by rw [e, h.irr] at hz; cases hz
    rw [UpB.one h xs ys a2 b2 (fun z => ⟨fun hz => ?_, fun hz => ?_⟩)]
    · exact (List.mem_cons.1 ((hm z).1 (List.mem_cons_of_mem _ hz))).resolve_left (ne z (a1 z hz))
    · exact (List.mem_cons.1 ((hm z).2 (List.mem_cons_of_mem _ hz))).resolve_left (ne z (b1 z hz))
theorem sort_eq (h : OrdB lt eq) {L M : List α} (hm : ∀ x, x ∈ L ↔ x ∈ M) : sortB lt eq L = sortB lt eq M :=
  UpB.one h _ _ (UpB.sort h L) (UpB.sort h M) (fun x => by rw [mem_sortB (fun a b e => (h.eqi a b).1 e), mem_sortB (fun a b e => (h.eqi a b).1 e)]; exact hm x)
end
theorem ordI : OrdB iLt iEq := ⟨iEq_iff, by simp [iLt], by simp only [iLt, decide_eq_true_eq]; omega, by simp only [iLt, decide_eq_true_eq]; omega⟩
theorem toList_inj {a b : ByteArray} (h : a.toList = b.toList) : a = b := (sEq_iff a b).1 (by simp [sEq, h])
theorem ordS : OrdB sLt sEq := ⟨sEq_iff, fun a => bl_irr _, fun a b c h1 h2 => bl_trans _ _ _ h1 h2, fun a b h => by
  have := bl_tot a.toList b.toList (fun e => h (toList_inj e))
  unfold sLt
  cases h1 : Op.bytesLess a.toList b.toList
  · right; rw [this, h1]; rfl
  · left; rfl⟩
def wantSum (u : ResD) (L : List PodD) : ResD := L.foldl (fun u p => plusR u (pWant p)) u
/-- All of them, each for itself. -/
def allP (n : NodeD) (L : List PodD) : InfoD := (n, sortB sLt sEq (L.map (·.1)), wantSum (0, 0, 0) L, sortB iLt iEq (L.flatMap pPorts), sortB sLt sEq (L.flatMap pClaims))
theorem add_all (n : NodeD) (L : List PodD) (p : PodD) : addP (allP n L) p = allP n (L ++ [p]) := by
  have h1 : sortB sLt sEq (sortB sLt sEq (L.map (·.1)) ++ [p.1]) = sortB sLt sEq ((L ++ [p]).map (·.1)) := sort_eq ordS (fun x => by simp [mem_sorted])
  have h2 : sortB iLt iEq (sortB iLt iEq (L.flatMap pPorts) ++ pPorts p) = sortB iLt iEq ((L ++ [p]).flatMap pPorts) := sort_eq ordI (fun x => by simp [mem_sortB (fun a b e => (iEq_iff a b).1 e)])
  have h3 : sortB sLt sEq (sortB sLt sEq (L.flatMap pClaims) ++ pClaims p) = sortB sLt sEq ((L ++ [p]).flatMap pClaims) := sort_eq ordS (fun x => by simp [mem_sorted])
  show ((n, sortB sLt sEq (sortB sLt sEq (L.map (·.1)) ++ [p.1]), plusR (wantSum (0, 0, 0) L) (pWant p), sortB iLt iEq (sortB iLt iEq (L.flatMap pPorts) ++ pPorts p), sortB sLt sEq (sortB sLt sEq (L.flatMap pClaims) ++ pClaims p)) : InfoD) = allP n (L ++ [p])
  rw [h1, h2, h3]
  unfold allP
  simp [wantSum]
theorem of_nil (n : NodeD) : ofP n [] = allP n [] := rfl
theorem fold_add (n : NodeD) : ∀ (P Q : List PodD), P.foldl addP (allP n Q) = allP n (Q ++ P)
  | [], Q => by simp
  | p :: P, Q => by rw [List.foldl_cons, add_all, fold_add n P]; simp
theorem acc_each : ∀ (L : List PodD) (a : AccD), (L.map (·.1)).Nodup → (∀ p ∈ L, p.1 ∉ a.1) → L.foldl ofStep a = (a.1 ++ L.map (·.1), wantSum a.2.1 L, a.2.2.1 ++ L.flatMap pPorts, a.2.2.2 ++ L.flatMap pClaims)
  | [], a, _, _ => by simp [wantSum]
  | p :: L, a, hn, hd => by
    simp only [List.map_cons, List.nodup_cons, List.mem_map, not_exists, not_and] at hn
    have hno : ¬ hasB sEq a.1 p.1 = true := by rw [hasS_iff]; exact hd p List.mem_cons_self
    have e : ofStep a p = (a.1 ++ [p.1], plusR a.2.1 (pWant p), a.2.2.1 ++ pPorts p, a.2.2.2 ++ pClaims p) := by unfold ofStep; rw [if_neg hno]
    rw [List.foldl_cons, e, acc_each L _ hn.2 (fun q hq => by
      simp only [List.mem_append, List.mem_singleton, not_or]
      exact ⟨hd q (List.mem_cons_of_mem _ hq), hn.1 q hq⟩)]
    simp [wantSum]
theorem of_all (n : NodeD) (L : List PodD) (hn : (L.map (·.1)).Nodup) : ofP n L = allP n L := by
  have := acc_each L ([], (0, 0, 0), [], []) hn (fun p _ => by simp)
  unfold ofP accInfo ofAcc
  rw [this]
  rfl
theorem plusR_swap (u a b : ResD) : plusR (plusR u a) b = plusR (plusR u b) a := by
  have h : ∀ x y z : Int, addI (addI x y) z = addI (addI x z) y := fun x y z => by rw [addI_assoc, addI_comm y z, ← addI_assoc]
  simp [plusR, h]
theorem all_perm (n : NodeD) {P L : List PodD} (h : P.Perm L) : allP n P = allP n L := by
  have h1 : sortB sLt sEq (P.map (·.1)) = sortB sLt sEq (L.map (·.1)) := sort_eq ordS (fun x => (h.map _).mem_iff)
  have h2 : sortB iLt iEq (P.flatMap pPorts) = sortB iLt iEq (L.flatMap pPorts) := sort_eq ordI (fun x => by simp only [List.mem_flatMap, h.mem_iff])
  have h3 : sortB sLt sEq (P.flatMap pClaims) = sortB sLt sEq (L.flatMap pClaims) := sort_eq ordS (fun x => by simp only [List.mem_flatMap, h.mem_iff])
  have h4 : wantSum (0, 0, 0) P = wantSum (0, 0, 0) L := h.foldl_eq' (fun a _ b _ u => plusR_swap u (pWant a) (pWant b)) _
  unfold allP
  rw [h1, h2, h3, h4]
/-- In whatever order they come. -/
theorem order_plain (n : NodeD) {P L : List PodD} (h : P.Perm L) (hn : (L.map (·.1)).Nodup) : P.foldl addP (ofP n []) = ofP n L := by
  rw [of_nil, fold_add, of_all n L hn, List.nil_append, all_perm n h]
theorem order_ok (n : NodeD) {P : List PodD} (hn : (P.map (·.1)).Nodup) {j : Nat} (hj : j < P.length) : hasB sEq ((P.take j).foldl addP (ofP n [])).2.1 (P.getD j default).1 = false := by
  rw [of_nil, fold_add, List.nil_append, ← Bool.not_eq_true, hasS_iff]
  show ¬ _ ∈ sortB sLt sEq ((P.take j).map (·.1))
  rw [mem_sorted]
  intro hm
  have e : P.map (·.1) = (P.take j).map (·.1) ++ (P.drop j).map (·.1) := by rw [← List.map_append, List.take_append_drop]
  rw [e] at hn
  have hd := (List.nodup_append.1 hn).2.2
  refine hd _ hm _ ?_ rfl
  rw [getE _ _ hj]
  exact List.mem_map.2 ⟨P[j], by rw [List.mem_drop_iff_getElem]; exact ⟨0, by simpa using hj, by simp⟩, rfl⟩
end Go.Proofs.Ytbcclfiopebmpaa
namespace Go.Proofs.Ytbcclfiopebmpaa
open Go.RowKit
set_option linter.unusedSimpArgs false

def pBears (p : PodD) : List Bear := p.2.2.2.2.1
def pAsks (p : PodD) : List Ask := p.2.2.2.2.2.1
def wantP (p : PodD) : ResD := (clampI (pWant p).1, clampI (pWant p).2.1, clampI (pWant p).2.2)
def offB (i : InfoD) : Bool := i.1.2.2.2.1
def kepB (p : PodD) (i : InfoD) : Bool := (keptT i.1.2.2.1 (pBears p)).2
def askB (p : PodD) (i : InfoD) : Bool := !matchL i.1.2.1 (pAsks p)
def cntB (i : InfoD) : Bool := decide (i.1.2.2.2.2.2.1 ≤ (i.2.1.length : Int))
def cpuB (p : PodD) (i : InfoD) : Bool := decide ((freeP i).1 < (wantP p).1)
def memB (p : PodD) (i : InfoD) : Bool := decide ((freeP i).2.1 < (wantP p).2.1)
def dskB (p : PodD) (i : InfoD) : Bool := decide ((freeP i).2.2 < (wantP p).2.2)
/-- Each reason, and whether it is. -/
def whyR (p : PodD) (i : InfoD) : List (Int × Bool) :=
  [(1, offB i), (2, kepB p i), (3, askB p i), (4, clashP i p), (5, cntB i), (6, cpuB p i), (7, memB p i), (8, dskB p i)]
def yes (l : List (Int × Bool)) : List Int := (l.filter (·.2)).map (·.1)
def whyL (p : PodD) (i : InfoD) : List Int := yes (whyR p i)
def why1 (p : PodD) (i : InfoD) : Int := (whyL p i).headD 0
end Go.Proofs.Ytbcclfiopebmpaa
namespace Go.Proofs.Ytbcclfiopebmpaa
open Go.RowKit
set_option linter.unusedSimpArgs false
set_option maxRecDepth 100000

set_option maxHeartbeats 2000000 in
theorem rFree_calls (cs : List Value) (A : Where) (x : InfoD) (w : World) (h : Hid (RInfo A w cs x)) : Calls Try.prog 25 #[.agg cs.toArray] w fun e w' => e = .returned (.agg #[.int .i64 (freeP x).1, .int .i64 (freeP x).2.1, .int .i64 (freeP x).2.2]) ∧ Below w.heap.size w w' := by
  obtain ⟨⟨nn, nl, nt, no, ⟨ga, gb, gc⟩, np, nd⟩, nms, ⟨ua, ub, uc⟩, pts, dks⟩ := x
  obtain ⟨⟨a1, n1, m1⟩, ⟨a2, n2, m2⟩, ⟨a9, n9, m9⟩, ⟨a13, n13, m13⟩, ⟨a14, n14, m14⟩, rfl, _⟩ := h.out.out
  simp only [freeP, minusR]
  clear h
  obtain ⟨W2, hW2⟩ : ∃ W2, W2 = (w.alloc (.cells #[.string nn, .slice a1 n1 m1, .slice a2 n2 m2, .bool no, .int .i64 ga, .int .i64 gb, .int .i64 gc, .int .i64 np, .int .i64 nd, .slice a9 n9 m9, .int .i64 ua, .int .i64 ub, .int .i64 uc, .slice a13 n13 m13, .slice a14 n14 m14] 38)).alloc (.cells #[.int .i64 0, .int .i64 0, .int .i64 0] 24) := ⟨_, rfl⟩
  have B2 : PB2 w W2 [.string nn, .slice a1 n1 m1, .slice a2 n2 m2, .bool no, .int .i64 ga, .int .i64 gb, .int .i64 gc, .int .i64 np, .int .i64 nd, .slice a9 n9 m9, .int .i64 ua, .int .i64 ub, .int .i64 uc, .slice a13 n13 m13, .slice a14 n14 m14] [.int .i64 0, .int .i64 0, .int .i64 0] := by
    rw [hW2]
    refine ⟨(BoxL.new w 38 [.string nn, .slice a1 n1 m1, .slice a2 n2 m2, .bool no, .int .i64 ga, .int .i64 gb, .int .i64 gc, .int .i64 np, .int .i64 nd, .slice a9 n9 m9, .int .i64 ua, .int .i64 ub, .int .i64 uc, .slice a13 n13 m13, .slice a14 n14 m14]).on ((Below.refl _ _).alloc (Nat.le_refl _) _), ?_, by go_grown⟩
    have := BoxL.new (w.alloc (.cells #[.string nn, .slice a1 n1 m1, .slice a2 n2 m2, .bool no, .int .i64 ga, .int .i64 gb, .int .i64 gc, .int .i64 np, .int .i64 nd, .slice a9 n9 m9, .int .i64 ua, .int .i64 ub, .int .i64 uc, .slice a13 n13 m13, .slice a14 n14 m14] 38)) 24 [.int .i64 0, .int .i64 0, .int .i64 0]
    simpa using this
  have HB2 : Hid (PB2 w W2 [.string nn, .slice a1 n1 m1, .slice a2 n2 m2, .bool no, .int .i64 ga, .int .i64 gb, .int .i64 gc, .int .i64 np, .int .i64 nd, .slice a9 n9 m9, .int .i64 ua, .int .i64 ub, .int .i64 uc, .slice a13 n13 m13, .slice a14 n14 m14] [.int .i64 0, .int .i64 0, .int .i64 0]) := B2
  clear B2
  go_enter Try.func25, Try.ntmps25
  go_wp2_with fail
  rw [← hW2]
  clear hW2
  refine (rminus_calls ga gb gc ua ub uc W2).mono ?_
  rintro e w3 ⟨rfl, hb3⟩
  have C := HB2.out.on hb3
  obtain ⟨z0, f0⟩ := C.y.2 0 _ rfl
  obtain ⟨z1, f1⟩ := C.y.2 1 _ rfl
  obtain ⟨z2, f2⟩ := C.y.2 2 _ rfl
  have hb : Hid (Below w.heap.size w w3) := C.b
  clear C HB2 hb3
  go_wp2_with fail
  refine bodyPost_ret (v := .agg #[.int .i64 (subI ga ua), .int .i64 (subI gb ub), .int .i64 (subI gc uc)]) (by simp [results, Try.results25, go_sem, z0, z1, z2]) rfl ⟨rfl, ?_⟩
  exact ((hb.out.setCell (by simp) _).setCell (by simp) _).setCell (by simp) _
theorem clash_succ (V : List Int) (L : List Int) {k : Nat} (hk : k < L.length) : (L.take (k + 1)).any (fun q => hasB iEq V q) = ((L.take k).any (fun q => hasB iEq V q) || hasB iEq V (L.getD k default)) := by
  rw [← take_at hk]; simp
set_option maxHeartbeats 2000000 in
theorem rClash_calls (cs ds : List Value) (A A' : Where) (x : InfoD) (y : PodD) (w : World) (h : Hid (RInfo A w cs x)) (h' : Hid (RPod A' w ds y)) : Calls Try.prog 28 #[.agg cs.toArray, .agg ds.toArray] w fun e w' => e = .returned (.bool (clashP x y)) ∧ Below w.heap.size w w' := by
  obtain ⟨⟨nn, nl, nt, no, ⟨ga, gb, gc⟩, np, nd⟩, nms, ⟨ua, ub, uc⟩, pts, dks⟩ := x
  obtain ⟨⟨a1, n1, m1⟩, ⟨a2, n2, m2⟩, ⟨a9, n9, m9⟩, ⟨a13, n13, m13⟩, ⟨a14, n14, m14⟩, rfl, _, _, _, _, s13, _⟩ := h.out.out
  obtain ⟨g2, g6, g7, g8, ⟨b9, l9, k9⟩, g10, g11, g12, g13, rfl, _, _, _, _, _, t9, _⟩ := h'.out.out
  simp only at s13 t9
  have S13 : Hid (SlAt RInt 1 8 A w a13 n13 m13 pts) := s13
  have T9 : Hid (SlAt RInt 1 8 A' w b9 l9 k9 (pPorts y)) := t9
  have hE : Hid (clashP ((nn, nl, nt, no, (ga, gb, gc), np, nd), nms, (ua, ub, uc), pts, dks) y = (pPorts y).any (fun q => hasB iEq pts q)) := rfl
  rw [hE.out]
  generalize hpp : pPorts y = prt at T9
  have hlen := T9.out.len (by decide)
  have hn : Hid (prt.length = l9) := T9.out.1
  clear h h' s13 t9 hE hpp

  obtain ⟨W2, hW2⟩ : ∃ W2, W2 = (w.alloc (.cells #[.string nn, .slice a1 n1 m1, .slice a2 n2 m2, .bool no, .int .i64 ga, .int .i64 gb, .int .i64 gc, .int .i64 np, .int .i64 nd, .slice a9 n9 m9, .int .i64 ua, .int .i64 ub, .int .i64 uc, .slice a13 n13 m13, .slice a14 n14 m14] 38)).alloc (.cells #[.string y.1, .int .i64 y.2.1, .slice g2.1 g2.2.1 g2.2.2, .int .i64 y.2.2.2.1.1, .int .i64 y.2.2.2.1.2.1, .int .i64 y.2.2.2.1.2.2, .slice g6.1 g6.2.1 g6.2.2, .slice g7.1 g7.2.1 g7.2.2, .slice g8.1 g8.2.1 g8.2.2, .slice b9 l9 k9, .slice g10.1 g10.2.1 g10.2.2, .slice g11.1 g11.2.1 g11.2.2, .slice g12.1 g12.2.1 g12.2.2, .slice g13.1 g13.2.1 g13.2.2, .string y.2.2.2.2.2.2.2.2.2.2.2.2.1, .string y.2.2.2.2.2.2.2.2.2.2.2.2.2] 33) := ⟨_, rfl⟩
  have B2 : Hid (PB2 w W2 [.string nn, .slice a1 n1 m1, .slice a2 n2 m2, .bool no, .int .i64 ga, .int .i64 gb, .int .i64 gc, .int .i64 np, .int .i64 nd, .slice a9 n9 m9, .int .i64 ua, .int .i64 ub, .int .i64 uc, .slice a13 n13 m13, .slice a14 n14 m14] [.string y.1, .int .i64 y.2.1, .slice g2.1 g2.2.1 g2.2.2, .int .i64 y.2.2.2.1.1, .int .i64 y.2.2.2.1.2.1, .int .i64 y.2.2.2.1.2.2, .slice g6.1 g6.2.1 g6.2.2, .slice g7.1 g7.2.1 g7.2.2, .slice g8.1 g8.2.1 g8.2.2, .slice b9 l9 k9, .slice g10.1 g10.2.1 g10.2.2, .slice g11.1 g11.2.1 g11.2.2, .slice g12.1 g12.2.1 g12.2.2, .slice g13.1 g13.2.1 g13.2.2, .string y.2.2.2.2.2.2.2.2.2.2.2.2.1, .string y.2.2.2.2.2.2.2.2.2.2.2.2.2]) := by
    rw [hW2]
    refine ⟨(BoxL.new w 38 [.string nn, .slice a1 n1 m1, .slice a2 n2 m2, .bool no, .int .i64 ga, .int .i64 gb, .int .i64 gc, .int .i64 np, .int .i64 nd, .slice a9 n9 m9, .int .i64 ua, .int .i64 ub, .int .i64 uc, .slice a13 n13 m13, .slice a14 n14 m14]).on ((Below.refl _ _).alloc (Nat.le_refl _) _), ?_, by go_grown⟩
    have := BoxL.new (w.alloc (.cells #[.string nn, .slice a1 n1 m1, .slice a2 n2 m2, .bool no, .int .i64 ga, .int .i64 gb, .int .i64 gc, .int .i64 np, .int .i64 nd, .slice a9 n9 m9, .int .i64 ua, .int .i64 ub, .int .i64 uc, .slice a13 n13 m13, .slice a14 n14 m14] 38)) 33 [.string y.1, .int .i64 y.2.1, .slice g2.1 g2.2.1 g2.2.2, .int .i64 y.2.2.2.1.1, .int .i64 y.2.2.2.1.2.1, .int .i64 y.2.2.2.1.2.2, .slice g6.1 g6.2.1 g6.2.2, .slice g7.1 g7.2.1 g7.2.2, .slice g8.1 g8.2.1 g8.2.2, .slice b9 l9 k9, .slice g10.1 g10.2.1 g10.2.2, .slice g11.1 g11.2.1 g11.2.2, .slice g12.1 g12.2.1 g12.2.2, .slice g13.1 g13.2.1 g13.2.2, .string y.2.2.2.2.2.2.2.2.2.2.2.2.1, .string y.2.2.2.2.2.2.2.2.2.2.2.2.2]
    simpa using this
  go_enter Try.func28, Try.ntmps28
  go_wp2_with fail
  rw [← hW2]
  clear hW2
  go_loopw [5] (fun i wr => ∃ k : Nat, k ≤ l9 ∧ i = .int .i64 k ∧ Hid (PB2 w wr [.string nn, .slice a1 n1 m1, .slice a2 n2 m2, .bool no, .int .i64 ga, .int .i64 gb, .int .i64 gc, .int .i64 np, .int .i64 nd, .slice a9 n9 m9, .int .i64 ua, .int .i64 ub, .int .i64 uc, .slice a13 n13 m13, .slice a14 n14 m14] [.string y.1, .int .i64 y.2.1, .slice g2.1 g2.2.1 g2.2.2, .int .i64 y.2.2.2.1.1, .int .i64 y.2.2.2.1.2.1, .int .i64 y.2.2.2.1.2.2, .slice g6.1 g6.2.1 g6.2.2, .slice g7.1 g7.2.1 g7.2.2, .slice g8.1 g8.2.1 g8.2.2, .slice b9 l9 k9, .slice g10.1 g10.2.1 g10.2.2, .slice g11.1 g11.2.1 g11.2.2, .slice g12.1 g12.2.1 g12.2.2, .slice g13.1 g13.2.1 g13.2.2, .string y.2.2.2.2.2.2.2.2.2.2.2.2.1, .string y.2.2.2.2.2.2.2.2.2.2.2.2.2]) ∧ Hid ((prt.take k).any (fun q => hasB iEq pts q) = false)) (fun i _ => l9 - (intOf i).toNat)
  case atStart => exact ⟨0, Nat.zero_le _, rfl, B2, rfl⟩
  case round =>
    obtain ⟨k, hk, rfl, hB, hno⟩ := hrel
    obtain ⟨p9, _⟩ := hB.out.y.2 9 _ rfl
    obtain ⟨p13, _⟩ := hB.out.p.2 13 _ rfl
    by_cases hlt : k < l9
    · have hltz : (k : Int) < (l9 : Int) := by omega
      have hkl : k < prt.length := by rw [hn.out]; exact hlt
      obtain ⟨D, off, rfl, hD, _, cs, hr, hv⟩ := (T9.out.on RInt.firm hB.out.b).get hlt
      obtain rfl := hr
      have d0 := hv 0 _ rfl
      simp only [Nat.mul_one, Nat.add_zero] at d0
      clear hv
      have HN : Hid ((prt.take (k + 1)).any (fun q => hasB iEq pts q) = ((prt.take k).any (fun q => hasB iEq pts q) || hasB iEq pts (prt.getD k default))) := clash_succ pts prt hkl
      have HF : Hid (hasB iEq pts (prt.getD k default) = true → prt.any (fun q => hasB iEq pts q) = true) := fun h => by rw [List.any_eq_true]; exact ⟨prt.getD k default, by rw [getE _ _ hkl]; exact List.getElem_mem hkl, h⟩
      have HM : Hid (∀ m, Calls Try.prog 17 #[.slice a13 n13 m13, .int .i64 (prt.getD k default)] (wr.drewN m) fun e w' => e = .returned (.bool (hasB iEq pts (prt.getD k default))) ∧ ∃ q, w' = (wr.drewN m).drewN q) := fun m => (HasInt_calls a13 n13 m13 A pts _ (wr.drewN m) (S13.out.on RInt.firm (on2 hB.out.b (below_drewN (Below.refl _ _) _)))).mono (fun e w9 h => ⟨h.1, 0, h.2⟩)
      generalize prt.getD k default = q at d0 HN HF HM
      generalize hh : hasB iEq pts q = r at HN HF HM
      clear hh
      cases r
      · have HN2 : Hid ((prt.take (k + 1)).any (fun q => hasB iEq pts q) = false) := by rw [Hid, HN.out, hno.out]; rfl
        clear HN HF
        go_wp2_with fail
        go_quiet ((go_at_call 17; exact Calls.quiet_of (HM.out _)))
        go_wp2_with fail
        go_roundw
        case rel => exact ⟨k + 1, by omega, by go_num, hB.out.on (below_drewN (Below.refl _ _) _), HN2⟩
        case measure => simp [intOf]; omega
      · have HF2 : Hid (prt.any (fun q => hasB iEq pts q) = true) := HF.out rfl
        clear HN HF
        go_wp2_with fail
        go_quiet ((go_at_call 17; exact Calls.quiet_of (HM.out _)))
        go_wp2_with fail
        go_ret
        exact ⟨retB HF2.out.symm, (hB.out.on (below_drewN (Below.refl _ _) _)).b⟩
    · have hk9 : prt.take k = prt := List.take_of_length_le (by rw [hn.out]; omega)
      rw [hk9] at hno
      have hlz : ¬ ((k : Int) < (l9 : Int)) := by omega
      go_wp2_with fail
      go_ret
      exact ⟨retB hno.out.symm, hB.out.b⟩
end Go.Proofs.Ytbcclfiopebmpaa
namespace Go.Proofs.Ytbcclfiopebmpaa
open Go.RowKit
set_option linter.unusedSimpArgs false
set_option maxRecDepth 100000

set_option maxHeartbeats 1000000 in
theorem IndexS (a : Option Addr) (n cap : Nat) (A : Where) (L : List ByteArray) (s : ByteArray) (w : World) (hL : Hid (SlAt RStr 1 16 A w a n cap L)) : Calls Try.prog 96 #[.slice a n cap, .string s] w fun e w' => (∃ k : Int, e = .returned (.int .i64 k) ∧ hasB sEq L s = decide (0 ≤ k)) ∧ w' = w := by
  have hn : Hid (L.length = n) := hL.out.1
  have hlen := hL.out.len (by decide)
  go_enter Try.func96, Try.ntmps96
  go_wp2_with fail
  go_loop [8] (fun i => ∃ k : Nat, k ≤ n ∧ i = .int .i64 k ∧ Hid (hasB sEq (L.take k) s = false)) (fun i => n - (intOf i).toNat)
  case atStart => exact ⟨0, Nat.zero_le _, rfl, rfl⟩
  case round =>
    obtain ⟨k, hk, rfl, hno⟩ := hrel
    by_cases hlt : k < n
    · have hltz : (k : Int) < (n : Int) := by omega
      have hkl : k < L.length := by rw [hn.out]; exact hlt
      have HN : Hid (hasB sEq (L.take (k + 1)) s = (hasB sEq (L.take k) s || sEq (L.getD k default) s)) := hasB_succ _ _ _ hkl
      have HF : Hid (sEq (L.getD k default) s = true → hasB sEq L s = true) := hasB_found _ _ _ hkl
      obtain ⟨B, off, rfl, hB, _, cs, hr, hv⟩ := hL.out.get hlt
      obtain ⟨rfl, _⟩ := hr
      have d0 := hv 0 _ rfl
      simp only [Nat.mul_one, Nat.add_zero] at d0
      clear hv
      generalize L.getD k default = x at d0 HN HF
      cases he : sEq x s
      · have he' : (s.toList == x.toList) = false := by rw [BEq.comm]; exact he
        have HN2 : Hid (hasB sEq (L.take (k + 1)) s = false) := by rw [Hid, HN.out, hno.out, he]; rfl
        clear HN HF he
        go_wp2_with fail
        go_round
        case rel => exact ⟨k + 1, by omega, by go_num, HN2⟩
        case measure => simp [intOf]; omega
      · have he' : (s.toList == x.toList) = true := by rw [BEq.comm]; exact he
        have HT : Hid (hasB sEq L s = true) := HF.out he
        clear HN HF he
        go_wp2_with fail
        go_ret
        exact ⟨⟨k, rfl, by rw [HT.out]; simp⟩, rfl⟩
    · have hk' : L.take k = L := List.take_of_length_le (by rw [hn.out]; omega)
      rw [hk'] at hno
      have hlz : ¬ ((k : Int) < (n : Int)) := by omega
      go_wp2_with fail
      go_ret
      exact ⟨⟨-1, rfl, by rw [hno.out]; simp⟩, rfl⟩
set_option maxHeartbeats 1000000 in
theorem ContainsS (a : Option Addr) (n cap : Nat) (A : Where) (L : List ByteArray) (s : ByteArray) (w : World) (hL : Hid (SlAt RStr 1 16 A w a n cap L)) : Calls Try.prog 93 #[.slice a n cap, .string s] w fun e w' => e = .returned (.bool (hasB sEq L s)) ∧ w' = w := by
  have hI := IndexS a n cap A L s w hL
  generalize hasB sEq L s = b at hI ⊢
  go_enter Try.func93, Try.ntmps93
  go_wp2_with fail
  refine hI.mono ?_
  rintro e w' ⟨⟨k, rfl, rfl⟩, rfl⟩
  by_cases h0 : 0 ≤ k
  · go_wp2_with fail
    go_ret
    exact ⟨by simp [h0], rfl⟩
  · go_wp2_with fail
    go_ret
    exact ⟨by simp [h0], rfl⟩
set_option maxHeartbeats 1000000 in
theorem IndexI (a : Option Addr) (n cap : Nat) (A : Where) (L : List Int) (s : Int) (w : World) (hL : Hid (SlAt RInt 1 8 A w a n cap L)) : Calls Try.prog 80 #[.slice a n cap, .int .i64 s] w fun e w' => (∃ k : Int, e = .returned (.int .i64 k) ∧ hasB iEq L s = decide (0 ≤ k)) ∧ w' = w := by
  have hn : Hid (L.length = n) := hL.out.1
  have hlen := hL.out.len (by decide)
  go_enter Try.func80, Try.ntmps80
  go_wp2_with fail
  go_loop [8] (fun i => ∃ k : Nat, k ≤ n ∧ i = .int .i64 k ∧ Hid (hasB iEq (L.take k) s = false)) (fun i => n - (intOf i).toNat)
  case atStart => exact ⟨0, Nat.zero_le _, rfl, rfl⟩
  case round =>
    obtain ⟨k, hk, rfl, hno⟩ := hrel
    by_cases hlt : k < n
    · have hltz : (k : Int) < (n : Int) := by omega
      have hkl : k < L.length := by rw [hn.out]; exact hlt
      have HN : Hid (hasB iEq (L.take (k + 1)) s = (hasB iEq (L.take k) s || iEq (L.getD k default) s)) := hasB_succ _ _ _ hkl
      have HF : Hid (iEq (L.getD k default) s = true → hasB iEq L s = true) := hasB_found _ _ _ hkl
      obtain ⟨B, off, rfl, hB, _, cs, hr, hv⟩ := hL.out.get hlt
      obtain rfl := hr
      have d0 := hv 0 _ rfl
      simp only [Nat.mul_one, Nat.add_zero] at d0
      clear hv
      generalize L.getD k default = x at d0 HN HF
      cases he : iEq x s
      · have he' : ¬ s = x := fun e => by rw [e] at he; simp [iEq] at he
        have HN2 : Hid (hasB iEq (L.take (k + 1)) s = false) := by rw [Hid, HN.out, hno.out, he]; rfl
        clear HN HF he
        go_wp2_with fail
        go_round
        case rel => exact ⟨k + 1, by omega, by go_num, HN2⟩
        case measure => simp [intOf]; omega
      · obtain rfl : x = s := by simpa [iEq] using he
        have HT : Hid (hasB iEq L x = true) := HF.out he
        clear HN HF he
        go_wp2_with fail
        go_ret
        exact ⟨⟨k, rfl, by rw [HT.out]; simp⟩, rfl⟩
    · have hk' : L.take k = L := List.take_of_length_le (by rw [hn.out]; omega)
      rw [hk'] at hno
      have hlz : ¬ ((k : Int) < (n : Int)) := by omega
      go_wp2_with fail
      go_ret
      exact ⟨⟨-1, rfl, by rw [hno.out]; simp⟩, rfl⟩
set_option maxHeartbeats 1000000 in
theorem ContainsI (a : Option Addr) (n cap : Nat) (A : Where) (L : List Int) (s : Int) (w : World) (hL : Hid (SlAt RInt 1 8 A w a n cap L)) : Calls Try.prog 73 #[.slice a n cap, .int .i64 s] w fun e w' => e = .returned (.bool (hasB iEq L s)) ∧ w' = w := by
  have hI := IndexI a n cap A L s w hL
  generalize hasB iEq L s = b at hI ⊢
  go_enter Try.func73, Try.ntmps73
  go_wp2_with fail
  refine hI.mono ?_
  rintro e w' ⟨⟨k, rfl, rfl⟩, rfl⟩
  by_cases h0 : 0 ≤ k
  · go_wp2_with fail
    go_ret
    exact ⟨by simp [h0], rfl⟩
  · go_wp2_with fail
    go_ret
    exact ⟨by simp [h0], rfl⟩
/-- What is asked of a function that tells numbers: it answers p, and leaves all that was there. -/
def PredI (g : Nat) (lb : Array Value) (p : Int → Bool) (w : World) : Prop :=
  ∀ (W : World) (x : Int), Below w.heap.size w W → Calls Try.prog g (#[.int .i64 x] ++ lb) W fun e w' => e = .returned (.bool (p x)) ∧ Below W.heap.size W w'
theorem any_take (p : Int → Bool) (L : List Int) {k : Nat} (hk : k < L.length) : (L.take (k + 1)).any p = ((L.take k).any p || p (L.getD k default)) := by
  rw [← take_at hk]; simp
theorem any_found (p : Int → Bool) (L : List Int) {k : Nat} (hk : k < L.length) (h : p (L.getD k default) = true) : L.any p = true := by
  rw [List.any_eq_true]
  exact ⟨L.getD k default, by rw [getE _ _ hk]; exact List.getElem_mem hk, h⟩
set_option maxHeartbeats 2000000 in
theorem IndexFuncI (a : Option Addr) (n cap : Nat) (A : Where) (L : List Int) (w : World) (hL : Hid (SlAt RInt 1 8 A w a n cap L)) (p : Int → Bool) (g : Nat) (lb : Array Value) (eg : ∀ args w, (callFunc g args).run Try.prog w = .ok (.enter g args) w) (hp : Hid (PredI g lb p w)) :
    Calls Try.prog 79 #[.slice a n cap, .func (.func g) #[] lb] w fun e w' => (∃ k : Int, e = .returned (.int .i64 k) ∧ L.any p = decide (0 ≤ k)) ∧ Below w.heap.size w w' := by
  have hn : Hid (L.length = n) := hL.out.1
  have hlen := hL.out.len (by decide)
  go_enter Try.func79, Try.ntmps79
  go_wp2_with fail
  go_loopw [8] (fun i wr => ∃ k : Nat, k ≤ n ∧ i = .int .i64 k ∧ Below w.heap.size w wr ∧ Hid ((L.take k).any p = false)) (fun i _ => n - (intOf i).toNat)
  case atStart => exact ⟨0, Nat.zero_le _, rfl, Below.refl _ _, rfl⟩
  case round =>
    obtain ⟨k, hk, rfl, hbel, hno⟩ := hrel
    by_cases hlt : k < n
    · have hltz : (k : Int) < (n : Int) := by omega
      have hkl : k < L.length := by rw [hn.out]; exact hlt
      have HN : Hid ((L.take (k + 1)).any p = ((L.take k).any p || p (L.getD k default))) := any_take _ _ hkl
      have HF : Hid (p (L.getD k default) = true → L.any p = true) := any_found _ _ hkl
      obtain ⟨B, off, rfl, hB, _, cs, hr, hv⟩ := hL.out.get hlt
      obtain rfl := hr
      have d0 := (hbel.cell (p := ⟨B, off + k * 1 + 0, none⟩) hB).trans (hv 0 _ rfl)
      simp only [Nat.mul_one, Nat.add_zero] at d0
      clear hv
      have hcall := hp.out wr (L.getD k default) hbel
      generalize L.getD k default = x at d0 HN HF hcall
      cases he : p x
      · have HN2 : Hid ((L.take (k + 1)).any p = false) := by rw [Hid, HN.out, hno.out, he]; rfl
        rw [he] at hcall
        clear HN HF he
        go_wp2_with fail
        refine hcall.mono ?_
        rintro e w' ⟨rfl, hb'⟩
        go_wp2_with fail
        go_roundw
        case rel => exact ⟨k + 1, by omega, by go_num, on2 hbel hb', HN2⟩
        case measure => simp [intOf]; omega
      · have HT : Hid (L.any p = true) := HF.out he
        rw [he] at hcall
        clear HN HF he
        go_wp2_with fail
        refine hcall.mono ?_
        rintro e w' ⟨rfl, hb'⟩
        go_wp2_with fail
        go_ret
        exact ⟨⟨k, rfl, by rw [HT.out]; simp⟩, on2 hbel hb'⟩
    · have hk' : L.take k = L := List.take_of_length_le (by rw [hn.out]; omega)
      rw [hk'] at hno
      have hlz : ¬ ((k : Int) < (n : Int)) := by omega
      go_wp2_with fail
      go_ret
      exact ⟨⟨-1, rfl, by rw [hno.out]; simp⟩, hbel⟩
set_option maxHeartbeats 1000000 in
theorem ContainsFuncI (a : Option Addr) (n cap : Nat) (A : Where) (L : List Int) (w : World) (hL : Hid (SlAt RInt 1 8 A w a n cap L)) (p : Int → Bool) (g : Nat) (lb : Array Value) (eg : ∀ args w, (callFunc g args).run Try.prog w = .ok (.enter g args) w) (hp : Hid (PredI g lb p w)) :
    Calls Try.prog 71 #[.slice a n cap, .func (.func g) #[] lb] w fun e w' => e = .returned (.bool (L.any p)) ∧ Below w.heap.size w w' := by
  have hI := IndexFuncI a n cap A L w hL p g lb eg hp
  generalize L.any p = b at hI ⊢
  go_enter Try.func71, Try.ntmps71
  go_wp2_with fail
  refine hI.mono ?_
  rintro e w1 ⟨⟨k, rfl, rfl⟩, hb⟩
  by_cases h0 : 0 ≤ k
  · go_wp2_with fail
    go_ret
    exact ⟨by simp [h0], hb⟩
  · go_wp2_with fail
    go_ret
    exact ⟨by simp [h0], hb⟩
end Go.Proofs.Ytbcclfiopebmpaa
