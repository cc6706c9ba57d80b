/- The document's watcher: kind, Cut. Conditions: the watcher lies as is said of it. -/
import Derived.Test.YtnlmipgmakmbiaaWRef
namespace Go.Proofs.Ytnlmipgmakmbiaa
open Go.RowKit
set_option linter.unusedSimpArgs false
set_option maxRecDepth 100000

/-- Is there such a kind? -/
def knB (k : Int) : Bool := decide (1 ≤ k) && decide (k ≤ 6)
theorem kn_iff {k : Int} : knB k = true ↔ 1 ≤ k ∧ k ≤ 6 := by unfold knB; simp
theorem rkind_calls (k : Int) (w : World) : Calls Try.prog 29 #[.int .i64 k] w fun e w' => e = .returned (.bool (knB k)) ∧ w' = w := by
  by_cases h1 : 1 ≤ k
  · by_cases h2 : k ≤ 6
    · have HK : Hid (knB k = true) := kn_iff.2 ⟨h1, h2⟩
      go_enter Try.func29, Try.ntmps29
      go_wp2_with fail
      go_ret
      exact ⟨by rw [HK.out]; rfl, rfl⟩
    · have HK : Hid (knB k = false) := by rw [Hid, ← Bool.not_eq_true, kn_iff]; omega
      go_enter Try.func29, Try.ntmps29
      go_wp2_with fail
      go_ret
      exact ⟨by rw [HK.out]; rfl, rfl⟩
  · have HK : Hid (knB k = false) := by rw [Hid, ← Bool.not_eq_true, kn_iff]; omega
    go_enter Try.func29, Try.ntmps29
    go_wp2_with fail
    go_ret
    exact ⟨by rw [HK.out]; rfl, rfl⟩
/-- A watcher whose lists are seven long; where they lie. -/
structure Rw7 (w u : World) (p ga ca gb cb : Nat) (At : List Int) (Off : List Bool) : Prop where
  e : RwE w u p (.slice (some ⟨ga, 0, none⟩) 7 ca) (.slice (some ⟨gb, 0, none⟩) 7 cb) At Off
  la : At.length = 7
  lb : Off.length = 7
theorem RwS.seven {w u : World} {p : Nat} {At : List Int} {Off : List Bool} (h : RwS w u p At Off) (la : At.length = 7) (lb : Off.length = 7) : ∃ ga ca gb cb, Rw7 w u p ga ca gb cb At Off := by
  obtain ⟨a, b, h⟩ := h
  have pa : ∃ g c, a = .slice (some ⟨g, 0, none⟩) 7 c := by
    obtain ⟨xs, h1, _⟩ := h.ra
    obtain ⟨_, ⟨_, h2⟩ | ⟨g, cap, cur, rfl, _⟩⟩ := h1.2
    · omega
    · exact ⟨g, cap, by rw [la]⟩
  have pb : ∃ g c, b = .slice (some ⟨g, 0, none⟩) 7 c := by
    obtain ⟨xs, h1, _⟩ := h.rb
    obtain ⟨_, ⟨_, h2⟩ | ⟨g, cap, cur, rfl, _⟩⟩ := h1.2
    · omega
    · exact ⟨g, cap, by rw [lb]⟩
  obtain ⟨ga, ca, rfl⟩ := pa
  obtain ⟨gb, cb, rfl⟩ := pb
  exact ⟨ga, ca, gb, cb, h, la, lb⟩
/-- The blocks that a call of a watcher may write into. -/
abbrev Oth13 (ga gb : Nat) : Where := fun b => b ≠ ga ∧ b ≠ gb
section
variable {w u : World} {p ga ca gb cb : Nat} {At : List Int} {Off : List Bool}
theorem Rw7.on (h : Rw7 w u p ga ca gb cb At Off) {u' : World} (hb : Below u.heap.size u u') : Rw7 w u' p ga ca gb cb At Off := ⟨h.e.on hb, h.la, h.lb⟩
/-- The cells. -/
theorem Rw7.cells (h : Rw7 w u p ga ca gb cb At Off) : u.cell? ⟨p, 0, none⟩ = some (.slice (some ⟨ga, 0, none⟩) 7 ca) ∧ u.cell? ⟨p, 1, none⟩ = some (.slice (some ⟨gb, 0, none⟩) 7 cb) := ⟨(h.e.box.2 0 _ rfl).1, (h.e.box.2 1 _ rfl).1⟩
end
section
variable {α : Type} [Inhabited α] {R : Rep α} {k : Nat}
theorem Row.melts13 {A : Where} {w0 u : World} {e : TypeId} {g n cap o : Nat} {L : List α} (h : Row R k A w0 u e (.slice (some ⟨g, 0, none⟩) n cap) L) : u.frozen? ⟨g, o, none⟩ = false := by
  obtain ⟨xs, ⟨hb, hl, ⟨e1, _⟩ | ⟨g', cap', cur, e1, hBg, hg, hcp, hcm, hsz, htk⟩⟩, hch⟩ := h
  · cases e1
  simp only [Value.slice.injEq, Option.some.injEq, Addr.mk.injEq, and_true, true_and] at e1
  obtain ⟨rfl, _, rfl⟩ := e1
  simp [World.frozen?, hg]
theorem Row.get13 {α : Type} [Inhabited α] {R : Rep α} {k : Nat} (hR : Firm R k) {A : Where} {w0 u : World} {e : TypeId} {v : Value} {L : List α} (h : Row R k A w0 u e v L) {i : Nat} (hi : i < L.length) : ∃ g c cs, v = .slice (some ⟨g, 0, none⟩) L.length c ∧ g < u.heap.size ∧ R (fun b => A b ∧ v.ownBlock ≠ some b) u cs (L.getD i default) ∧ u.rangeAt g (i * k) cs := by
  obtain ⟨xs, h1, h2⟩ := h
  obtain ⟨cs, hr, hc⟩ := h2.2 i hi
  have h12 := h1.2
  obtain ⟨_, ⟨_, h0⟩ | ⟨g, cap, cur, rfl, hg, hh, hnc, _, hcs, htk⟩⟩ := h1.2
  · omega
  refine ⟨g, cap, cs, rfl, (Array.getElem?_eq_some_iff.1 hh).1, hr, fun j y hj => ?_⟩
  have hjk : j < k := by have := (List.getElem?_eq_some_iff.1 hj).1; rwa [hR.len hr] at this
  have hle : (i + 1) * k ≤ L.length * k := Nat.mul_le_mul_right k hi
  rw [Nat.add_mul, Nat.one_mul] at hle
  rw [h12.cellAt (i * k + j) (by omega), hc j hjk]
  exact hj
end
section
variable {w u : World} {p ga ca gb cb : Nat} {At : List Int} {Off : List Bool}
theorem Rw7.readA (h : Rw7 w u p ga ca gb cb At Off) {i : Nat} (hi : i < 7) : u.cell? ⟨ga, i, none⟩ = some (.int .i64 (At.getD i default)) ∧ u.frozen? ⟨ga, i, none⟩ = false := by
  obtain ⟨g, c, cs, e, _, hr, hc⟩ := h.e.ra.get13 RInt.firm (i := i) (by rw [h.la]; exact hi)
  obtain rfl : cs = [_] := hr
  simp only [Value.slice.injEq, Option.some.injEq, Addr.mk.injEq, and_true] at e
  obtain ⟨rfl, _⟩ := e
  have := hc 0 _ rfl
  rw [Nat.mul_one, Nat.add_zero] at this
  exact ⟨this, h.e.ra.melts13⟩
theorem Rw7.readB (h : Rw7 w u p ga ca gb cb At Off) {i : Nat} (hi : i < 7) : u.cell? ⟨gb, i, none⟩ = some (.bool (Off.getD i default)) ∧ u.frozen? ⟨gb, i, none⟩ = false := by
  obtain ⟨g, c, cs, e, _, hr, hc⟩ := h.e.rb.get13 RBool.firm (i := i) (by rw [h.lb]; exact hi)
  obtain rfl : cs = [_] := hr
  simp only [Value.slice.injEq, Option.some.injEq, Addr.mk.injEq, and_true] at e
  obtain ⟨rfl, _⟩ := e
  have := hc 0 _ rfl
  rw [Nat.mul_one, Nat.add_zero] at this
  exact ⟨this, h.e.rb.melts13⟩
theorem Rw7.setA (h : Rw7 w u p ga ca gb cb At Off) {i : Nat} (hi : i < 7) (v : Int) : Rw7 w (u.setCell ⟨ga, i, none⟩ (.int .i64 v)) p ga ca gb cb (At.set i v) Off := ⟨h.e.setA h.la hi v, by rw [List.length_set]; exact h.la, h.lb⟩
theorem Rw7.setB (h : Rw7 w u p ga ca gb cb At Off) {i : Nat} (hi : i < 7) (v : Bool) : Rw7 w (u.setCell ⟨gb, i, none⟩ (.bool v)) p ga ca gb cb At (Off.set i v) := ⟨h.e.setB h.lb hi v, h.la, by rw [List.length_set]; exact h.lb⟩
end
/-- What Cut answers, and which marks there are then. -/
def cutP (Off : List Bool) (k : Int) : Int × List Bool := if knB k = true then (if Off.getD k.toNat default = true then (130, Off) else (0, Off.set k.toNat true)) else (2, Off)
set_option maxHeartbeats 4000000 in
theorem rCut_calls (w : World) (p ga ca gb cb : Nat) (At : List Int) (Off : List Bool) (k : Int) (u : World) (h : Rw7 w u p ga ca gb cb At Off) : Calls Try.prog 17 #[.pointer (some ⟨p, 0, none⟩), .int .i64 k] u fun e u' => e = .returned (.int .i64 (cutP Off k).1) ∧ Rw7 w u' p ga ca gb cb At (cutP Off k).2 ∧ Kept (Oth13 ga gb) u u' := by
  have hCk := rkind_calls k u
  have Hh : Hid (Rw7 w u p ga ca gb cb At Off) := h
  obtain ⟨c0, c1⟩ := h.cells
  cases hk : knB k with
  | false =>
    have HR : Hid (cutP Off k = (2, Off)) := by rw [Hid]; unfold cutP; rw [hk]; rfl
    rw [hk] at hCk
    clear h
    go_enter Try.func17, Try.ntmps17
    go_wp2_with fail
    refine hCk.mono ?_
    rintro e u1 ⟨rfl, rfl⟩
    go_wp2_with fail
    go_ret
    exact ⟨by rw [HR.out]; rfl, by rw [HR.out]; exact Hh.out, Kept.refl _ _⟩
  | true =>
    rw [hk] at hCk
    obtain ⟨k1, k2⟩ := kn_iff.1 hk
    obtain ⟨i, rfl⟩ : ∃ i : Nat, k = (i : Int) := ⟨k.toNat, by omega⟩
    have hi : i < 7 := by omega
    obtain ⟨d0, d1⟩ := h.readB hi
    have hiz : (i : Int) < 7 := by omega
    generalize hb : Off.getD i default = b at d0
    have HR : Hid (cutP Off (i : Int) = if b = true then (130, Off) else (0, Off.set i true)) := by rw [Hid]; unfold cutP; rw [hk, if_pos rfl, Int.toNat_natCast, hb]
    clear h hk hb
    cases b with
    | true =>
      go_enter Try.func17, Try.ntmps17
      go_wp2_with fail
      refine hCk.mono ?_
      rintro e u1 ⟨rfl, rfl⟩
      go_wp2_with fail
      --M1
      go_ret
      exact ⟨by rw [HR.out]; rfl, by rw [HR.out]; exact Hh.out, Kept.refl _ _⟩
    | false =>
      go_enter Try.func17, Try.ntmps17
      go_wp2_with fail
      refine hCk.mono ?_
      rintro e u1 ⟨rfl, rfl⟩
      go_wp2_with fail
      go_ret
      exact ⟨by rw [HR.out]; rfl, by rw [HR.out]; exact Hh.out.setB hi true, Kept.set (p := ⟨gb, i, none⟩) (fun h => h.2 rfl) _⟩
end Go.Proofs.Ytnlmipgmakmbiaa
