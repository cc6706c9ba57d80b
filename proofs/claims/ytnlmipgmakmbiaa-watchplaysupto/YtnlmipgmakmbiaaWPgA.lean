/- The program's watcher as it lies in memory: a mark that a call made it, and a cursor with a mark a kind. made, of. Condition: the watcher lies as is said of it. -/
import Derived.Test.YtnlmipgmakmbiaaWFrC
namespace Go.Proofs.Ytnlmipgmakmbiaa
open Go.RowKit
set_option linter.unusedSimpArgs false
set_option maxRecDepth 100000

/-- The cursors' cells. -/
def curC : List Int → List Bool → List Value
  | a :: As, b :: Bs => .int .i64 a :: .bool b :: curC As Bs
  | _, _ => []
theorem cur_len : ∀ (A : List Int) (B : List Bool), A.length = B.length → (curC A B).length = 2 * A.length
  | [], [], _ => rfl
  | _ :: As, _ :: Bs, h => by
    have := cur_len As Bs (by simpa using h)
    simp only [curC, List.length_cons, this]; omega
theorem cur_a : ∀ (A : List Int) (B : List Bool) (i : Nat), A.length = B.length → i < A.length → (curC A B)[2 * i]? = some (.int .i64 (A.getD i default))
  | [], [], _, _, h => absurd h (Nat.not_lt_zero _)
  | a :: As, b :: Bs, 0, _, _ => rfl
  | a :: As, b :: Bs, i + 1, h, hi => by
    have := cur_a As Bs i (by simpa using h) (by simpa using hi)
    rw [show 2 * (i + 1) = 2 * i + 1 + 1 by omega]
    simpa [curC] using this
theorem cur_b : ∀ (A : List Int) (B : List Bool) (i : Nat), A.length = B.length → i < A.length → (curC A B)[2 * i + 1]? = some (.bool (B.getD i default))
  | [], [], _, _, h => absurd h (Nat.not_lt_zero _)
  | a :: As, b :: Bs, 0, _, _ => rfl
  | a :: As, b :: Bs, i + 1, h, hi => by
    have := cur_b As Bs i (by simpa using h) (by simpa using hi)
    rw [show 2 * (i + 1) + 1 = 2 * i + 1 + 1 + 1 by omega]
    simpa [curC] using this
theorem cur_setA : ∀ (A : List Int) (B : List Bool) (i : Nat) (v : Int), A.length = B.length → (curC A B).set (2 * i) (.int .i64 v) = curC (A.set i v) B
  | [], [], _, _, _ => rfl
  | a :: As, b :: Bs, 0, _, _ => rfl
  | a :: As, b :: Bs, i + 1, v, h => by
    have := cur_setA As Bs i v (by simpa using h)
    rw [show 2 * (i + 1) = 2 * i + 1 + 1 by omega]
    simp [curC, this]
theorem cur_setB : ∀ (A : List Int) (B : List Bool) (i : Nat) (v : Bool), A.length = B.length → (curC A B).set (2 * i + 1) (.bool v) = curC A (B.set i v)
  | [], [], _, _, _ => rfl
  | a :: As, b :: Bs, 0, _, _ => rfl
  | a :: As, b :: Bs, i + 1, v, h => by
    have := cur_setB As Bs i v (by simpa using h)
    rw [show 2 * (i + 1) + 1 = 2 * i + 1 + 1 + 1 by omega]
    simp [curC, this]
theorem cur_one : ∀ (A : List Int) (B : List Bool), ∀ v ∈ curC A B, v.oneCell' = true
  | a :: As, b :: Bs, v, h => by
    simp only [curC, List.mem_cons] at h
    rcases h with rfl | rfl | h
    · rfl
    · rfl
    · exact cur_one As Bs v h
  | [], _, v, h => by simp [curC] at h
  | _ :: _, [], v, h => by simp [curC] at h
/-- A watcher at p. -/
structure PWt (u : World) (p : Nat) (At : List Int) (Off : List Bool) : Prop where
  la : At.length = 7
  lb : Off.length = 7
  box : BoxL u p (.bool true :: curC At Off)
section
variable {u : World} {p : Nat} {At : List Int} {Off : List Bool}
theorem PWt.kept (h : PWt u p At Off) {A : Where} {u' : World} (hk : Kept A u u') (hA : A p) : PWt u' p At Off := ⟨h.la, h.lb, h.box.kept hk hA⟩
theorem PWt.on (h : PWt u p At Off) {u' : World} (hb : Below u.heap.size u u') : PWt u' p At Off := ⟨h.la, h.lb, h.box.on hb⟩
theorem PWt.len (h : PWt u p At Off) : ((.bool true :: curC At Off : List Value)).length = 15 := by rw [List.length_cons, cur_len _ _ (h.la.trans h.lb.symm), h.la]
theorem PWt.mark (h : PWt u p At Off) : u.cell? ⟨p, 0, none⟩ = some (.bool true) := (h.box.2 0 _ rfl).1
theorem PWt.seen (h : PWt u p At Off) {i : Nat} (hi : i < 7) : u.cell? ⟨p, 1 + i * 2, none⟩ = some (.int .i64 (At.getD i default)) ∧ u.frozen? ⟨p, 1 + i * 2, none⟩ = false := by
  have := cur_a At Off i (h.la.trans h.lb.symm) (by rw [h.la]; exact hi)
  refine h.box.2 _ _ ?_
  rw [show 1 + i * 2 = 2 * i + 1 by omega, List.getElem?_cons_succ]
  exact this
theorem PWt.gone (h : PWt u p At Off) {i : Nat} (hi : i < 7) : u.cell? ⟨p, 1 + i * 2 + 1, none⟩ = some (.bool (Off.getD i default)) ∧ u.frozen? ⟨p, 1 + i * 2 + 1, none⟩ = false := by
  have := cur_b At Off i (h.la.trans h.lb.symm) (by rw [h.la]; exact hi)
  refine h.box.2 _ _ ?_
  rw [show 1 + i * 2 + 1 = (2 * i + 1) + 1 by omega, List.getElem?_cons_succ]
  exact this
theorem PWt.setA (h : PWt u p At Off) {i : Nat} (hi : i < 7) (v : Int) : PWt (u.setCell ⟨p, 1 + i * 2, none⟩ (.int .i64 v)) p (At.set i v) Off := by
  refine ⟨by rw [List.length_set]; exact h.la, h.lb, ?_⟩
  have := h.box.set (1 + i * 2) (.int .i64 v) (by rw [h.len]; omega)
  rw [show 1 + i * 2 = 2 * i + 1 by omega, List.set_cons_succ, cur_setA _ _ _ _ (h.la.trans h.lb.symm)] at this
  rwa [show 1 + i * 2 = 2 * i + 1 by omega]
theorem PWt.setB (h : PWt u p At Off) {i : Nat} (hi : i < 7) (v : Bool) : PWt (u.setCell ⟨p, 1 + i * 2 + 1, none⟩ (.bool v)) p At (Off.set i v) := by
  refine ⟨h.la, by rw [List.length_set]; exact h.lb, ?_⟩
  have := h.box.set (1 + i * 2 + 1) (.bool v) (by rw [h.len]; omega)
  rw [show 1 + i * 2 + 1 = (2 * i + 1) + 1 by omega, List.set_cons_succ, cur_setB _ _ _ _ (h.la.trans h.lb.symm)] at this
  rwa [show 1 + i * 2 + 1 = (2 * i + 1) + 1 by omega]
end
theorem made_calls (p : Nat) (u : World) (h : u.cell? ⟨p, 0, none⟩ = some (.bool true)) : Calls Try.prog 30 #[.pointer (some ⟨p, 0, none⟩)] u fun e u' => e = .returned (.bool true) ∧ u' = u := by
  go_enter Try.func30, Try.ntmps30
  go_wp2_with fail
  go_ret
  exact ⟨rfl, rfl⟩
/-- Which cursor. -/
theorem of_calls13 (p : Nat) (u : World) (k : Int) (h : u.cell? ⟨p, 0, none⟩ = some (.bool true)) : Calls Try.prog 25 #[.pointer (some ⟨p, 0, none⟩), .int .i64 k] u fun e u' => e = .returned (.tuple #[.pointer (if knB k = true then some ⟨p, 1 + k.toNat * 2, none⟩ else none), .int .i64 (if knB k = true then 0 else 2)]) ∧ u' = u := by
  have hC := made_calls p u h
  cases hk : knB k with
  | true =>
    obtain ⟨k1, k2⟩ := kn_iff.1 hk
    obtain ⟨i, rfl⟩ : ∃ i : Nat, k = (i : Int) := ⟨k.toNat, by omega⟩
    have n1 : ¬ ((i : Int) < 1) := by omega
    have n2 : ¬ ((6 : Int) < (i : Int)) := by omega
    have hi : i < 7 := by omega
    have hiz : (i : Int) < 7 := by omega
    go_enter Try.func25, Try.ntmps25
    go_wp2_with fail
    refine hC.mono ?_
    rintro e u1 ⟨rfl, rfl⟩
    clear hC
    go_wp2_with fail
    --M1
    go_ret2
    exact ⟨rfl, rfl⟩
  | false =>
    have hn : ¬ (1 ≤ k ∧ k ≤ 6) := fun h => by rw [kn_iff.2 h] at hk; cases hk
    by_cases h1 : k < 1
    · go_enter Try.func25, Try.ntmps25
      go_wp2_with fail
      refine hC.mono ?_
      rintro e u1 ⟨rfl, rfl⟩
      clear hC
      go_wp2_with fail
      go_ret2
      exact ⟨rfl, rfl⟩
    · have h2 : 6 < k := by omega
      go_enter Try.func25, Try.ntmps25
      go_wp2_with fail
      refine hC.mono ?_
      rintro e u1 ⟨rfl, rfl⟩
      clear hC
      go_wp2_with fail
      go_ret2
      exact ⟨rfl, rfl⟩
end Go.Proofs.Ytnlmipgmakmbiaa
