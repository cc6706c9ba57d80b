/- Small facts for the copy of a state. Plain. No condition. slices.Clone at the six kinds of objects: rows of one's own. Condition: what is cloned lies as is said of it. The order of texts. Plain mathematics. No condition. base.Texts, Ints, Labels give slices of their own that hold the same. Condition: the slice holds what is said of it. base.Reqs gives a slice of its own, its values' texts copied too, that holds the same. Condition: the slice holds what is said of it. -/
import Derived.Test.YtmnldngojgldiaaGreatQ03
import Derived.Test.YtmnldngojgldiaaGreatQ02
import Derived.Lib.OwnBridge
import Derived.Lib.AppendIntMem
namespace Go.Proofs.YtmnldngojgldiaaGreat
open Go.RowKit
set_option linter.unusedSimpArgs false

def zPod : List Value := [.string ⟨#[]⟩, .int .i64 0, .slice none 0 0, .int .i64 0, .int .i64 0, .int .i64 0, .slice none 0 0, .slice none 0 0, .slice none 0 0, .slice none 0 0, .slice none 0 0, .slice none 0 0, .slice none 0 0, .slice none 0 0, .string ⟨#[]⟩, .string ⟨#[]⟩]
def zNode : List Value := [.string ⟨#[]⟩, .slice none 0 0, .slice none 0 0, .bool false, .int .i64 0, .int .i64 0, .int .i64 0, .int .i64 0, .int .i64 0]
def zVolume : List Value := [.string ⟨#[]⟩, .int .i64 0, .string ⟨#[]⟩, .slice none 0 0, .string ⟨#[]⟩]
def zClaim : List Value := [.string ⟨#[]⟩, .int .i64 0, .string ⟨#[]⟩, .string ⟨#[]⟩]
def zClass : List Value := [.string ⟨#[]⟩, .bool false]
def zBudget : List Value := [.string ⟨#[]⟩, .slice none 0 0, .int .i64 0]
theorem info_of {T : TypeId} {n : Nat} {c : List Value} (h : (Tryz.prog.info? T).map (·.size) = some n) (hc : c.length = n) : (Tryz.prog.info? T).map (·.size) = some c.length := by rw [hc]; exact h
theorem iszPod : (Tryz.prog.info? 61).map (·.size) = some 16 := by kernel_rfl
theorem iszNode : (Tryz.prog.info? 64).map (·.size) = some 9 := by kernel_rfl
theorem iszVolume : (Tryz.prog.info? 49).map (·.size) = some 5 := by kernel_rfl
theorem iszClaim : (Tryz.prog.info? 44).map (·.size) = some 4 := by kernel_rfl
theorem iszClass : (Tryz.prog.info? 46).map (·.size) = some 2 := by kernel_rfl
theorem iszBudget : (Tryz.prog.info? 79).map (·.size) = some 3 := by kernel_rfl
theorem infoSta : (Tryz.prog.info? 29).map (·.size) = some 6 := by kernel_rfl
theorem want_yes {c : Prop} [Decidable c] {A B : Prop} (h : c) (k : A) : if c then A else B := by rw [if_pos h]; exact k
end Go.Proofs.YtmnldngojgldiaaGreat
namespace Go.Proofs.YtmnldngojgldiaaGreat
open Go.RowKit Go.Maps
set_option linter.unusedSimpArgs false
set_option maxRecDepth 100000

def Lo10 (A : Where) (w : World) : Where := fun b => A b ∧ b < w.heap.size
theorem sl_none10 {α : Type} [Inhabited α] {R : Rep α} {k bytes : Nat} {A : Where} {w : World} {n cap : Nat} {L : List α} (h : SlAt R k bytes A w none n cap L) : n = 0 ∧ cap = 0 ∧ L = [] := by
  obtain ⟨h1, h2, h3, _, _⟩ := h
  have := h3 rfl
  subst this
  obtain rfl : n = 0 := by omega
  exact ⟨rfl, rfl, List.length_eq_zero_iff.1 h1⟩
theorem infcPod : (Tryz.prog.info? 61).map (fun i => (i.zero, i.size, i.bytes)) = some (some (.agg zPod.toArray), 16, 296) := by kernel_rfl
set_option maxHeartbeats 1000000 in
theorem ClonePod10 (a : Option Addr) (n cap : Nat) (A : Where) (L : List PodD) (w : World) (hL : SlAt RPod 16 296 A w a n cap L) : Calls Tryz.prog 58 #[.slice a n cap] w fun e w' => ∃ v, e = .returned v ∧ Row RPod 16 (Lo10 A w) w w' 61 v L := by
  have hb0 : Below w.heap.size w (w.alloc (.cells #[] 61)) := by go_grown
  rcases a with _ | ad
  · have hE := fun w => Lib.run_eql_slice_nil (P := Tryz.prog) w 22 61 none 0 0 0 0 Tryz.underlying22
    obtain ⟨rfl, rfl, rfl⟩ := sl_none10 hL
    have HP : Hid (Row RPod 16 (Lo10 A w) w w 61 (.slice none 0 0) ([] : List PodD)) := Row.nil _ _ _
    clear hL
    go_enter Tryz.func58, Tryz.ntmps58
    go_wp2_with fail
    go_ret
    exact ⟨_, rfl, HP.out⟩
  · have hE := fun w => Lib.run_eql_slice_nil (P := Tryz.prog) w 22 61 (some ad) n cap 0 0 Tryz.underlying22
    have hL' : SlAt RPod 16 296 (Lo10 A w) w (some ad) n cap L := hL.weak RPod.firm (fun b hb h => ⟨h, hb⟩)
    obtain ⟨xs, hc, hcell, hone⟩ := (hL'.on RPod.firm hb0).chunks RPod.firm
    have hn := hL.1
    have hbb := hL.2.2.2.1
    subst hn
    have HR : Hid (Row RPod 16 (Lo10 A w) w (w.alloc (.cells #[] 61)) 61 (.slice (some ⟨w.heap.size, 0, none⟩) 0 0) ([] : List PodD)) := Row.start _ w w _ (Below.refl _ _)
    have HC : Hid (Chunks RPod 16 (fun b => Lo10 A w b ∧ Value.ownBlock (.slice (some ⟨w.heap.size, 0, none⟩) 0 0) ≠ some b) (w.alloc (.cells #[] 61)) xs L) := hc.weak RPod.firm (fun b _ h => ⟨h, by simp only [Value.ownBlock, ne_eq, Option.some.injEq]; have := h.2; omega⟩)
    have HX : Hid (∀ j y, xs[j]? = some y → (w.alloc (.cells #[] 61)).cell? (ad.add j) = some y) := hcell
    have HO : Hid (∀ y ∈ xs, y.oneCell' = true) := hone
    clear hc hcell hone hL hL'
    go_enter Tryz.func58, Tryz.ntmps58
    go_wp2_with (at_builtin; go_must (refine row_append RPod.firm (A := (Lo10 A w)) (w0 := w) rfl _ _ 22 61 rfl _ 296 infcPod Tryz.underlying22 rfl (by decide) (by decide) _ [] rfl HR.out ad L.length cap xs L rfl rfl HC.out HX.out HO.out (by simp; omega) ?_); intro v1 w1 hrow1 hg1)
    go_ret
    exact ⟨_, rfl, by simpa using hrow1⟩
theorem infcNode : (Tryz.prog.info? 64).map (fun i => (i.zero, i.size, i.bytes)) = some (some (.agg zNode.toArray), 9, 112) := by kernel_rfl
set_option maxHeartbeats 1000000 in
theorem CloneNode10 (a : Option Addr) (n cap : Nat) (A : Where) (L : List NodeD) (w : World) (hL : SlAt RNode 9 112 A w a n cap L) : Calls Tryz.prog 59 #[.slice a n cap] w fun e w' => ∃ v, e = .returned v ∧ Row RNode 9 (Lo10 A w) w w' 64 v L := by
  have hb0 : Below w.heap.size w (w.alloc (.cells #[] 64)) := by go_grown
  rcases a with _ | ad
  · have hE := fun w => Lib.run_eql_slice_nil (P := Tryz.prog) w 23 64 none 0 0 0 0 Tryz.underlying23
    obtain ⟨rfl, rfl, rfl⟩ := sl_none10 hL
    have HP : Hid (Row RNode 9 (Lo10 A w) w w 64 (.slice none 0 0) ([] : List NodeD)) := Row.nil _ _ _
    clear hL
    go_enter Tryz.func59, Tryz.ntmps59
    go_wp2_with fail
    go_ret
    exact ⟨_, rfl, HP.out⟩
  · have hE := fun w => Lib.run_eql_slice_nil (P := Tryz.prog) w 23 64 (some ad) n cap 0 0 Tryz.underlying23
    have hL' : SlAt RNode 9 112 (Lo10 A w) w (some ad) n cap L := hL.weak RNode.firm (fun b hb h => ⟨h, hb⟩)
    obtain ⟨xs, hc, hcell, hone⟩ := (hL'.on RNode.firm hb0).chunks RNode.firm
    have hn := hL.1
    have hbb := hL.2.2.2.1
    subst hn
    have HR : Hid (Row RNode 9 (Lo10 A w) w (w.alloc (.cells #[] 64)) 64 (.slice (some ⟨w.heap.size, 0, none⟩) 0 0) ([] : List NodeD)) := Row.start _ w w _ (Below.refl _ _)
    have HC : Hid (Chunks RNode 9 (fun b => Lo10 A w b ∧ Value.ownBlock (.slice (some ⟨w.heap.size, 0, none⟩) 0 0) ≠ some b) (w.alloc (.cells #[] 64)) xs L) := hc.weak RNode.firm (fun b _ h => ⟨h, by simp only [Value.ownBlock, ne_eq, Option.some.injEq]; have := h.2; omega⟩)
    have HX : Hid (∀ j y, xs[j]? = some y → (w.alloc (.cells #[] 64)).cell? (ad.add j) = some y) := hcell
    have HO : Hid (∀ y ∈ xs, y.oneCell' = true) := hone
    clear hc hcell hone hL hL'
    go_enter Tryz.func59, Tryz.ntmps59
    go_wp2_with (at_builtin; go_must (refine row_append RNode.firm (A := (Lo10 A w)) (w0 := w) rfl _ _ 23 64 rfl _ 112 infcNode Tryz.underlying23 rfl (by decide) (by decide) _ [] rfl HR.out ad L.length cap xs L rfl rfl HC.out HX.out HO.out (by simp; omega) ?_); intro v1 w1 hrow1 hg1)
    go_ret
    exact ⟨_, rfl, by simpa using hrow1⟩
theorem infcVolume : (Tryz.prog.info? 49).map (fun i => (i.zero, i.size, i.bytes)) = some (some (.agg zVolume.toArray), 5, 80) := by kernel_rfl
set_option maxHeartbeats 1000000 in
theorem CloneVolume10 (a : Option Addr) (n cap : Nat) (A : Where) (L : List VolumeD) (w : World) (hL : SlAt RVolume 5 80 A w a n cap L) : Calls Tryz.prog 60 #[.slice a n cap] w fun e w' => ∃ v, e = .returned v ∧ Row RVolume 5 (Lo10 A w) w w' 49 v L := by
  have hb0 : Below w.heap.size w (w.alloc (.cells #[] 49)) := by go_grown
  rcases a with _ | ad
  · have hE := fun w => Lib.run_eql_slice_nil (P := Tryz.prog) w 24 49 none 0 0 0 0 Tryz.underlying24
    obtain ⟨rfl, rfl, rfl⟩ := sl_none10 hL
    have HP : Hid (Row RVolume 5 (Lo10 A w) w w 49 (.slice none 0 0) ([] : List VolumeD)) := Row.nil _ _ _
    clear hL
    go_enter Tryz.func60, Tryz.ntmps60
    go_wp2_with fail
    go_ret
    exact ⟨_, rfl, HP.out⟩
  · have hE := fun w => Lib.run_eql_slice_nil (P := Tryz.prog) w 24 49 (some ad) n cap 0 0 Tryz.underlying24
    have hL' : SlAt RVolume 5 80 (Lo10 A w) w (some ad) n cap L := hL.weak RVolume.firm (fun b hb h => ⟨h, hb⟩)
    obtain ⟨xs, hc, hcell, hone⟩ := (hL'.on RVolume.firm hb0).chunks RVolume.firm
    have hn := hL.1
    have hbb := hL.2.2.2.1
    subst hn
    have HR : Hid (Row RVolume 5 (Lo10 A w) w (w.alloc (.cells #[] 49)) 49 (.slice (some ⟨w.heap.size, 0, none⟩) 0 0) ([] : List VolumeD)) := Row.start _ w w _ (Below.refl _ _)
    have HC : Hid (Chunks RVolume 5 (fun b => Lo10 A w b ∧ Value.ownBlock (.slice (some ⟨w.heap.size, 0, none⟩) 0 0) ≠ some b) (w.alloc (.cells #[] 49)) xs L) := hc.weak RVolume.firm (fun b _ h => ⟨h, by simp only [Value.ownBlock, ne_eq, Option.some.injEq]; have := h.2; omega⟩)
    have HX : Hid (∀ j y, xs[j]? = some y → (w.alloc (.cells #[] 49)).cell? (ad.add j) = some y) := hcell
    have HO : Hid (∀ y ∈ xs, y.oneCell' = true) := hone
    clear hc hcell hone hL hL'
    go_enter Tryz.func60, Tryz.ntmps60
    go_wp2_with (at_builtin; go_must (refine row_append RVolume.firm (A := (Lo10 A w)) (w0 := w) rfl _ _ 24 49 rfl _ 80 infcVolume Tryz.underlying24 rfl (by decide) (by decide) _ [] rfl HR.out ad L.length cap xs L rfl rfl HC.out HX.out HO.out (by simp; omega) ?_); intro v1 w1 hrow1 hg1)
    go_ret
    exact ⟨_, rfl, by simpa using hrow1⟩
theorem infcClaim : (Tryz.prog.info? 44).map (fun i => (i.zero, i.size, i.bytes)) = some (some (.agg zClaim.toArray), 4, 56) := by kernel_rfl
set_option maxHeartbeats 1000000 in
theorem CloneClaim10 (a : Option Addr) (n cap : Nat) (A : Where) (L : List ClaimD) (w : World) (hL : SlAt RClaim 4 56 A w a n cap L) : Calls Tryz.prog 61 #[.slice a n cap] w fun e w' => ∃ v, e = .returned v ∧ Row RClaim 4 (Lo10 A w) w w' 44 v L := by
  have hb0 : Below w.heap.size w (w.alloc (.cells #[] 44)) := by go_grown
  rcases a with _ | ad
  · have hE := fun w => Lib.run_eql_slice_nil (P := Tryz.prog) w 25 44 none 0 0 0 0 Tryz.underlying25
    obtain ⟨rfl, rfl, rfl⟩ := sl_none10 hL
    have HP : Hid (Row RClaim 4 (Lo10 A w) w w 44 (.slice none 0 0) ([] : List ClaimD)) := Row.nil _ _ _
    clear hL
    go_enter Tryz.func61, Tryz.ntmps61
    go_wp2_with fail
    go_ret
    exact ⟨_, rfl, HP.out⟩
  · have hE := fun w => Lib.run_eql_slice_nil (P := Tryz.prog) w 25 44 (some ad) n cap 0 0 Tryz.underlying25
    have hL' : SlAt RClaim 4 56 (Lo10 A w) w (some ad) n cap L := hL.weak RClaim.firm (fun b hb h => ⟨h, hb⟩)
    obtain ⟨xs, hc, hcell, hone⟩ := (hL'.on RClaim.firm hb0).chunks RClaim.firm
    have hn := hL.1
    have hbb := hL.2.2.2.1
    subst hn
    have HR : Hid (Row RClaim 4 (Lo10 A w) w (w.alloc (.cells #[] 44)) 44 (.slice (some ⟨w.heap.size, 0, none⟩) 0 0) ([] : List ClaimD)) := Row.start _ w w _ (Below.refl _ _)
    have HC : Hid (Chunks RClaim 4 (fun b => Lo10 A w b ∧ Value.ownBlock (.slice (some ⟨w.heap.size, 0, none⟩) 0 0) ≠ some b) (w.alloc (.cells #[] 44)) xs L) := hc.weak RClaim.firm (fun b _ h => ⟨h, by simp only [Value.ownBlock, ne_eq, Option.some.injEq]; have := h.2; omega⟩)
    have HX : Hid (∀ j y, xs[j]? = some y → (w.alloc (.cells #[] 44)).cell? (ad.add j) = some y) := hcell
    have HO : Hid (∀ y ∈ xs, y.oneCell' = true) := hone
    clear hc hcell hone hL hL'
    go_enter Tryz.func61, Tryz.ntmps61
    go_wp2_with (at_builtin; go_must (refine row_append RClaim.firm (A := (Lo10 A w)) (w0 := w) rfl _ _ 25 44 rfl _ 56 infcClaim Tryz.underlying25 rfl (by decide) (by decide) _ [] rfl HR.out ad L.length cap xs L rfl rfl HC.out HX.out HO.out (by simp; omega) ?_); intro v1 w1 hrow1 hg1)
    go_ret
    exact ⟨_, rfl, by simpa using hrow1⟩
theorem infcClass : (Tryz.prog.info? 46).map (fun i => (i.zero, i.size, i.bytes)) = some (some (.agg zClass.toArray), 2, 24) := by kernel_rfl
set_option maxHeartbeats 1000000 in
theorem CloneClass10 (a : Option Addr) (n cap : Nat) (A : Where) (L : List ClassD) (w : World) (hL : SlAt RClass 2 24 A w a n cap L) : Calls Tryz.prog 62 #[.slice a n cap] w fun e w' => ∃ v, e = .returned v ∧ Row RClass 2 (Lo10 A w) w w' 46 v L := by
  have hb0 : Below w.heap.size w (w.alloc (.cells #[] 46)) := by go_grown
  rcases a with _ | ad
  · have hE := fun w => Lib.run_eql_slice_nil (P := Tryz.prog) w 26 46 none 0 0 0 0 Tryz.underlying26
    obtain ⟨rfl, rfl, rfl⟩ := sl_none10 hL
    have HP : Hid (Row RClass 2 (Lo10 A w) w w 46 (.slice none 0 0) ([] : List ClassD)) := Row.nil _ _ _
    clear hL
    go_enter Tryz.func62, Tryz.ntmps62
    go_wp2_with fail
    go_ret
    exact ⟨_, rfl, HP.out⟩
  · have hE := fun w => Lib.run_eql_slice_nil (P := Tryz.prog) w 26 46 (some ad) n cap 0 0 Tryz.underlying26
    have hL' : SlAt RClass 2 24 (Lo10 A w) w (some ad) n cap L := hL.weak RClass.firm (fun b hb h => ⟨h, hb⟩)
    obtain ⟨xs, hc, hcell, hone⟩ := (hL'.on RClass.firm hb0).chunks RClass.firm
    have hn := hL.1
    have hbb := hL.2.2.2.1
    subst hn
    have HR : Hid (Row RClass 2 (Lo10 A w) w (w.alloc (.cells #[] 46)) 46 (.slice (some ⟨w.heap.size, 0, none⟩) 0 0) ([] : List ClassD)) := Row.start _ w w _ (Below.refl _ _)
    have HC : Hid (Chunks RClass 2 (fun b => Lo10 A w b ∧ Value.ownBlock (.slice (some ⟨w.heap.size, 0, none⟩) 0 0) ≠ some b) (w.alloc (.cells #[] 46)) xs L) := hc.weak RClass.firm (fun b _ h => ⟨h, by simp only [Value.ownBlock, ne_eq, Option.some.injEq]; have := h.2; omega⟩)
    have HX : Hid (∀ j y, xs[j]? = some y → (w.alloc (.cells #[] 46)).cell? (ad.add j) = some y) := hcell
    have HO : Hid (∀ y ∈ xs, y.oneCell' = true) := hone
    clear hc hcell hone hL hL'
    go_enter Tryz.func62, Tryz.ntmps62
    go_wp2_with (at_builtin; go_must (refine row_append RClass.firm (A := (Lo10 A w)) (w0 := w) rfl _ _ 26 46 rfl _ 24 infcClass Tryz.underlying26 rfl (by decide) (by decide) _ [] rfl HR.out ad L.length cap xs L rfl rfl HC.out HX.out HO.out (by simp; omega) ?_); intro v1 w1 hrow1 hg1)
    go_ret
    exact ⟨_, rfl, by simpa using hrow1⟩
theorem infcBudget : (Tryz.prog.info? 79).map (fun i => (i.zero, i.size, i.bytes)) = some (some (.agg zBudget.toArray), 3, 48) := by kernel_rfl
set_option maxHeartbeats 1000000 in
theorem CloneBudget10 (a : Option Addr) (n cap : Nat) (A : Where) (L : List BudgetD) (w : World) (hL : SlAt RBudget 3 48 A w a n cap L) : Calls Tryz.prog 63 #[.slice a n cap] w fun e w' => ∃ v, e = .returned v ∧ Row RBudget 3 (Lo10 A w) w w' 79 v L := by
  have hb0 : Below w.heap.size w (w.alloc (.cells #[] 79)) := by go_grown
  rcases a with _ | ad
  · have hE := fun w => Lib.run_eql_slice_nil (P := Tryz.prog) w 27 79 none 0 0 0 0 Tryz.underlying27
    obtain ⟨rfl, rfl, rfl⟩ := sl_none10 hL
    have HP : Hid (Row RBudget 3 (Lo10 A w) w w 79 (.slice none 0 0) ([] : List BudgetD)) := Row.nil _ _ _
    clear hL
    go_enter Tryz.func63, Tryz.ntmps63
    go_wp2_with fail
    go_ret
    exact ⟨_, rfl, HP.out⟩
  · have hE := fun w => Lib.run_eql_slice_nil (P := Tryz.prog) w 27 79 (some ad) n cap 0 0 Tryz.underlying27
    have hL' : SlAt RBudget 3 48 (Lo10 A w) w (some ad) n cap L := hL.weak RBudget.firm (fun b hb h => ⟨h, hb⟩)
    obtain ⟨xs, hc, hcell, hone⟩ := (hL'.on RBudget.firm hb0).chunks RBudget.firm
    have hn := hL.1
    have hbb := hL.2.2.2.1
    subst hn
    have HR : Hid (Row RBudget 3 (Lo10 A w) w (w.alloc (.cells #[] 79)) 79 (.slice (some ⟨w.heap.size, 0, none⟩) 0 0) ([] : List BudgetD)) := Row.start _ w w _ (Below.refl _ _)
    have HC : Hid (Chunks RBudget 3 (fun b => Lo10 A w b ∧ Value.ownBlock (.slice (some ⟨w.heap.size, 0, none⟩) 0 0) ≠ some b) (w.alloc (.cells #[] 79)) xs L) := hc.weak RBudget.firm (fun b _ h => ⟨h, by simp only [Value.ownBlock, ne_eq, Option.some.injEq]; have := h.2; omega⟩)
    have HX : Hid (∀ j y, xs[j]? = some y → (w.alloc (.cells #[] 79)).cell? (ad.add j) = some y) := hcell
    have HO : Hid (∀ y ∈ xs, y.oneCell' = true) := hone
    clear hc hcell hone hL hL'
    go_enter Tryz.func63, Tryz.ntmps63
    go_wp2_with (at_builtin; go_must (refine row_append RBudget.firm (A := (Lo10 A w)) (w0 := w) rfl _ _ 27 79 rfl _ 48 infcBudget Tryz.underlying27 rfl (by decide) (by decide) _ [] rfl HR.out ad L.length cap xs L rfl rfl HC.out HX.out HO.out (by simp; omega) ?_); intro v1 w1 hrow1 hg1)
    go_ret
    exact ⟨_, rfl, by simpa using hrow1⟩
end Go.Proofs.YtmnldngojgldiaaGreat
namespace Go.Proofs.YtmnldngojgldiaaGreat
set_option linter.unusedSimpArgs false

theorem cb_cons (a b : UInt8) (xs ys : List UInt8) : (a.toNat < b.toNat ∧ Lib.compareBytes (a :: xs) (b :: ys) = -1) ∨ (b.toNat < a.toNat ∧ Lib.compareBytes (a :: xs) (b :: ys) = 1) ∨ (a.toNat = b.toNat ∧ Lib.compareBytes (a :: xs) (b :: ys) = Lib.compareBytes xs ys) := by
  simp only [Lib.compareBytes]
  by_cases h1 : a < b
  · exact .inl ⟨h1, by rw [if_pos h1]⟩
  · by_cases h2 : b < a
    · exact .inr (.inl ⟨h2, by rw [if_neg h1, if_pos h2]⟩)
    · have h1' : ¬ a.toNat < b.toNat := h1
      have h2' : ¬ b.toNat < a.toNat := h2
      exact .inr (.inr ⟨by omega, by rw [if_neg h1, if_neg h2]⟩)
theorem cb_less : ∀ (a b : List UInt8), (Lib.compareBytes a b < 0) ↔ Op.bytesLess a b = true
  | [], [] => by simp [Lib.compareBytes, Op.bytesLess]
  | [], _ :: _ => by simp [Lib.compareBytes, Op.bytesLess]
  | _ :: _, [] => by simp [Lib.compareBytes, Op.bytesLess]
  | a :: xs, b :: ys => by
    have ih := cb_less xs ys
    rcases cb_cons a b xs ys with ⟨h, e⟩ | ⟨h, e⟩ | ⟨h, e⟩ <;> rw [e] <;> simp only [Op.bytesLess, Bool.or_eq_true, Bool.and_eq_true, decide_eq_true_eq, beq_iff_eq]
    · have : a < b := h
      simp [this]
    · have h1 : ¬ a < b := fun x => by have : a.toNat < b.toNat := x; omega
      have h2 : ¬ a = b := fun x => by rw [x] at h; omega
      simp [h1, h2]
    · have h1 : ¬ a < b := fun x => by have : a.toNat < b.toNat := x; omega
      have h2 : a = b := UInt8.toNat_inj.1 h
      simp [h1, h2, ih]
theorem cb_self : ∀ a : List UInt8, Lib.compareBytes a a = 0
  | [] => rfl
  | a :: xs => by rcases cb_cons a a xs xs with ⟨h, _⟩ | ⟨h, _⟩ | ⟨_, e⟩; omega; omega; rw [e]; exact cb_self xs
theorem cb_trans : ∀ (a b c : List UInt8), Lib.compareBytes a b < 0 → Lib.compareBytes b c < 0 → Lib.compareBytes a c < 0
  | [], [], _, h, _ => by simp [Lib.compareBytes] at h
  | _ :: _, [], _, h, _ => by simp [Lib.compareBytes] at h
  | _, _ :: _, [], _, h => by simp [Lib.compareBytes] at h
  | [], _ :: _, _ :: _, _, _ => by simp [Lib.compareBytes]
  | a :: xs, b :: ys, c :: zs, h1, h2 => by
    rcases cb_cons a b xs ys with ⟨p, e⟩ | ⟨p, e⟩ | ⟨p, e⟩ <;> rw [e] at h1 <;> rcases cb_cons b c ys zs with ⟨q, f⟩ | ⟨q, f⟩ | ⟨q, f⟩ <;> rw [f] at h2 <;> rcases cb_cons a c xs zs with ⟨r, g⟩ | ⟨r, g⟩ | ⟨r, g⟩ <;> rw [g] <;> first | omega | exact cb_trans xs ys zs h1 h2
theorem cb_ntrans : ∀ (a b c : List UInt8), ¬ Lib.compareBytes a b < 0 → ¬ Lib.compareBytes b c < 0 → ¬ Lib.compareBytes a c < 0
  | [], [], _, _, h => h
  | [], _ :: _, _, h, _ => by simp [Lib.compareBytes] at h
  | _ :: _, _, [], _, _ => by simp [Lib.compareBytes]
  | _ :: _, [], _ :: _, _, h => by simp [Lib.compareBytes] at h
  | a :: xs, b :: ys, c :: zs, h1, h2 => by
    rcases cb_cons a b xs ys with ⟨p, e⟩ | ⟨p, e⟩ | ⟨p, e⟩ <;> rw [e] at h1 <;> rcases cb_cons b c ys zs with ⟨q, f⟩ | ⟨q, f⟩ | ⟨q, f⟩ <;> rw [f] at h2 <;> rcases cb_cons a c xs zs with ⟨r, g⟩ | ⟨r, g⟩ | ⟨r, g⟩ <;> rw [g] <;> first | omega | exact cb_ntrans xs ys zs h1 h2

/-- How labels are held against each other: by their keys. -/
def cfL (x y : Lab) : Int := Lib.compareBytes x.1.data.toList y.1.data.toList
theorem sLt_iff (a b : ByteArray) : sLt a b = true ↔ Lib.compareBytes a.data.toList b.data.toList < 0 := by
  unfold sLt
  rw [ByteArray.toList_eq, ByteArray.toList_eq]
  exact (cb_less _ _).symm
theorem sLt_false (a b : ByteArray) : sLt a b = false ↔ ¬ Lib.compareBytes a.data.toList b.data.toList < 0 := by
  rw [← sLt_iff]; simp
theorem sLt_trans {a b c : ByteArray} (h1 : sLt a b = true) (h2 : sLt b c = true) : sLt a c = true := by
  rw [sLt_iff] at *; exact cb_trans _ _ _ h1 h2
theorem cb_tri : ∀ a b : List UInt8, (Lib.compareBytes a b < 0 ∧ 0 < Lib.compareBytes b a) ∨ (Lib.compareBytes a b = 0 ∧ a = b) ∨ (0 < Lib.compareBytes a b ∧ Lib.compareBytes b a < 0)
  | [], [] => .inr (.inl ⟨rfl, rfl⟩)
  | [], _ :: _ => .inl ⟨by simp [Lib.compareBytes], by simp [Lib.compareBytes]⟩
  | _ :: _, [] => .inr (.inr ⟨by simp [Lib.compareBytes], by simp [Lib.compareBytes]⟩)
  | a :: xs, b :: ys => by
    have ih := cb_tri xs ys
    rcases cb_cons a b xs ys with ⟨h, e⟩ | ⟨h, e⟩ | ⟨h, e⟩ <;> rcases cb_cons b a ys xs with ⟨h', e'⟩ | ⟨h', e'⟩ | ⟨h', e'⟩ <;> rw [e, e'] <;> first | omega | skip
    have : a = b := UInt8.toNat_inj.1 h
    subst this
    rcases ih with h | ⟨h1, h2⟩ | h
    · exact .inl h
    · exact .inr (.inl ⟨h1, by rw [h2]⟩)
    · exact .inr (.inr h)
/-- '>' of texts. -/
theorem gt_iff (a b : ByteArray) : (!(Op.bytesLess a.toList b.toList || a.toList == b.toList)) = sLt b a := by
  have h1 : Op.bytesLess a.toList b.toList = sLt a b := rfl
  have h2 : (a.toList == b.toList) = sEq a b := rfl
  rw [h1, h2]
  rcases cb_tri a.data.toList b.data.toList with ⟨h, h'⟩ | ⟨h, h'⟩ | ⟨h, h'⟩
  · rw [(sLt_iff a b).2 h, (sLt_false b a).2 (by omega)]; rfl
  · obtain rfl : a = b := by obtain ⟨⟨a⟩⟩ := a; obtain ⟨⟨b⟩⟩ := b; simp_all
    rw [sEq_self, (sLt_false a a).2 (by rw [cb_self]; omega)]; simp
  · rw [(sLt_false a b).2 (by omega), (sLt_iff b a).2 h', sEq_false (fun e => by rw [e] at h'; rw [cb_self] at h'; omega)]; rfl
theorem sLt_asymm {a b : ByteArray} (h : sLt a b = true) : sLt b a = false := by
  rw [sLt_false]; rw [sLt_iff] at h
  rcases cb_tri a.data.toList b.data.toList with ⟨_, h'⟩ | ⟨h', _⟩ | ⟨h', _⟩ <;> omega
theorem sLt_ntrans {a b c : ByteArray} (h1 : sLt a b = false) (h2 : sLt b c = false) : sLt a c = false := by
  rw [sLt_false] at *; exact cb_ntrans _ _ _ h1 h2

end Go.Proofs.YtmnldngojgldiaaGreat
namespace Go.Proofs.YtmnldngojgldiaaGreat
open Go.RowKit
set_option linter.unusedSimpArgs false

/-- What is told so hangs on no memory. -/
def Flat {α : Type} (R : Rep α) : Prop := ∀ (A A' : Where) (w w' : World) (cs : List Value) (x : α), R A w cs x → R A' w' cs x
theorem RStr.flat : Flat RStr := fun _ _ _ _ _ _ h => h
theorem RInt.flat : Flat RInt := fun _ _ _ _ _ _ h => h
theorem RBool.flat : Flat RBool := fun _ _ _ _ _ _ h => h
theorem Flat.pair {α β : Type} {R : Rep α} {S : Rep β} (hR : Flat R) (hS : Flat S) : Flat (RPair R S) := by
  rintro A A' w w' cs x ⟨c, d, e, h1, h2⟩
  exact ⟨c, d, e, hR _ _ _ _ _ _ h1, hS _ _ _ _ _ _ h2⟩
theorem Chunks.flat {α : Type} [Inhabited α] {R : Rep α} {k : Nat} (hF : Flat R) {A A' : Where} {u u' : World} {xs : List Value} {L : List α} (h : Chunks R k A u xs L) : Chunks R k A' u' xs L :=
  ⟨h.1, fun i hi => by obtain ⟨cs, h1, h2⟩ := h.2 i hi; exact ⟨cs, hF _ _ _ _ _ _ h1, h2⟩⟩
theorem RLabel.flat : Flat RLabel := Flat.pair RStr.flat RStr.flat
theorem RRes.flat : Flat RRes := Flat.pair RInt.flat (Flat.pair RInt.flat RInt.flat)
theorem RTaint.flat : Flat RTaint := Flat.pair RStr.flat (Flat.pair RStr.flat RInt.flat)
theorem RBear.flat : Flat RBear := Flat.pair RStr.flat (Flat.pair RStr.flat (Flat.pair RBool.flat RInt.flat))
theorem RClaim.flat : Flat RClaim := Flat.pair RStr.flat (Flat.pair RInt.flat (Flat.pair RStr.flat RStr.flat))
theorem RClass.flat : Flat RClass := Flat.pair RStr.flat RBool.flat
theorem sl_none {α : Type} [Inhabited α] {R : Rep α} {k bytes : Nat} {A : Where} {w : World} {n cap : Nat} {L : List α} (h : SlAt R k bytes A w none n cap L) : n = 0 ∧ cap = 0 ∧ L = [] := by
  have h0 : cap = 0 := h.2.2.1 rfl
  have h1 := h.2.1
  exact ⟨by omega, h0, List.length_eq_zero_iff.1 (by rw [h.1]; omega)⟩
theorem SlAt.len {α : Type} [Inhabited α] {R : Rep α} {k bytes : Nat} {A : Where} {w : World} {a : Option Addr} {n cap : Nat} {L : List α} (h : SlAt R k bytes A w a n cap L) (hb : 1 ≤ bytes) : n ≤ 140737488351232 := by
  have := h.2.2.2.1
  have h2 : n * 1 ≤ n * bytes := Nat.mul_le_mul_left _ hb
  omega
theorem infostr : (Tryz.prog.info? 9).map (fun i => (i.zero, i.size, i.bytes)) = some (some (.string ⟨#[]⟩), 1, 16) := by kernel_rfl
theorem infoint : (Tryz.prog.info? 3).map (fun i => (i.zero, i.size, i.bytes)) = some (some (.int .i64 0), 1, 8) := by kernel_rfl
theorem infoLabel : (Tryz.prog.info? 144).map (fun i => (i.zero, i.size, i.bytes)) = some (some (.agg #[.string ⟨#[]⟩, .string ⟨#[]⟩]), 2, 32) := by kernel_rfl

end Go.Proofs.YtmnldngojgldiaaGreat
namespace Go.Proofs.YtmnldngojgldiaaGreat
open Go.RowKit
set_option linter.unusedSimpArgs false

theorem infoReq : (Tryz.prog.info? 146).map (fun i => (i.zero, i.size, i.bytes)) = some (some (.agg #[.string ⟨#[]⟩, .int .i64 0, .slice none 0 0]), 3, 48) := by kernel_rfl
/-- What has come since a later world is no part of the row. -/
theorem Row.apart {α : Type} [Inhabited α] {R : Rep α} {k : Nat} {A : Where} {w0 u u' : World} {e : TypeId} {v : Value} {L : List α} (h : Row R k A w0 u e v L) (hs : u.heap.size ≤ u'.heap.size) : ∀ b, Fresh u' b → Fresh w0 b ∧ v.ownBlock ≠ some b := by
  obtain ⟨xs, h1, _⟩ := h
  intro b hb
  have hb' : u'.heap.size ≤ b := hb
  have := h1.1.size
  refine ⟨show w0.heap.size ≤ b by omega, fun e => ?_⟩
  have := (h1.2.lt b e).2
  omega
theorem take_at {α : Type} [Inhabited α] {L : List α} {k : Nat} (hk : k < L.length) : L.take k ++ [L.getD k default] = L.take (k + 1) := (take_succ hk).symm
theorem bytes_le {n k bytes : Nat} (h : n * bytes ≤ 140737488351232) (hk : k < n) : (k + 1) * bytes ≤ 140737488355328 := by
  have : (k + 1) * bytes ≤ n * bytes := Nat.mul_le_mul_right _ hk
  omega

end Go.Proofs.YtmnldngojgldiaaGreat
