/- The document's copy of what is asked (base.Reqs), walked. Condition: the slice holds what is said of it, and is no longer than memory allows. -/
import Derived.Test.YtpehmobedcflnaaLReqs
namespace Go.Proofs.Ytpehmobedcflnaa
open Go.RowKit
set_option linter.unusedSimpArgs false

theorem own_shape {w : World} {B : Nat} {e : TypeId} {size : Nat} {v : Value} {n : Nat} {xs : List Value} (h : w.ownsRow B e size v n xs) : ∃ a cap, v = .slice a n cap := by
  rcases own_cells h with ⟨rfl, rfl⟩ | ⟨g, cap, rfl, _⟩
  · exact ⟨none, 0, rfl⟩
  · exact ⟨some ⟨g, 0, none⟩, cap, rfl⟩
theorem new3 (u : World) (t : TypeId) (x y z : Value) : ∀ j q, ([x, y, z] : List Value)[j]? = some q → (u.alloc (.cells #[x, y, z] t)).cell? ((⟨u.heap.size, 0, none⟩ : Addr).add j) = some q := by
  intro j q hj
  have hl : j < 3 := by simpa using (List.getElem?_eq_some_iff.1 hj).1
  have : j = 0 ∨ j = 1 ∨ j = 2 := by omega
  rcases this with rfl | rfl | rfl <;> simp at hj <;> subst hj <;> simp [go_sem, Addr.add]

set_option maxHeartbeats 2000000 in
theorem Reqs_calls (a : Option Addr) (cap : Nat) (R : List Ask) (w : World) (hR : Hid (AsksAt w a R)) (hby : R.length * 48 ≤ 140737488355328) (hvb : Hid (∀ r ∈ R, r.vals.length * 16 ≤ 140737488355328)) : Calls Try.prog 10 #[.slice a R.length cap] w fun e w' => ∃ v xs, e = .returned v ∧ Own w w' 41 3 v R.length xs ∧ CopyAt w R R.length xs w' := by
  have hO0 := Own.start w w 41 3 (Below.refl _ _)
  go_enter Try.func10, Try.ntmps10
  go_wp2_with fail
  go_loopw [3, 4] (fun v i wr => ∃ (k : Nat) (xs : List Value), k ≤ R.length ∧ i = .int .i64 k ∧ Own w wr 41 3 v k xs ∧ CopyAt w R k xs wr) (fun _ i _ => R.length - (intOf i).toNat)
  case atStart => exact ⟨0, [], Nat.zero_le _, rfl, hO0, rfl, fun i hi => absurd hi (Nat.not_lt_zero _)⟩
  case round =>
    obtain ⟨k, xs, hk, rfl, hO, hC⟩ := hrel
    by_cases hlt : k < R.length
    · have hbel := hO.1
      obtain ⟨B, off, rfl, hB, c0, c1, ⟨a', capv, c2, hv⟩, s0⟩ := hR.out.get hlt
      have hvl : (R.getD k default).vals.length * 16 ≤ 140737488355328 := hvb.out _ (by rw [getD_get _ _ hlt]; exact List.getElem_mem hlt)
      have d0 := (hbel.cell (p := ⟨B, off + k * 3, none⟩) hB).trans c0
      have d1 := (hbel.cell (p := ⟨B, off + k * 3 + 1, none⟩) hB).trans c1
      have d2 := (hbel.cell (p := ⟨B, off + k * 3 + 2, none⟩) hB).trans c2
      have hBw : B < wr.heap.size := Nat.lt_of_lt_of_le hB hbel.size
      have hT := Texts_own a' capv (R.getD k default).vals (wr.alloc (.cells #[.string (R.getD k default).key, .int .i64 (R.getD k default).op, .slice a' (R.getD k default).vals.length capv] 41)) (hv.on (on2 hbel (by go_grown))) hvl
      have HS : Hid (∀ {u : World} {v : Value}, CopyAt w R k xs u → ValAt w u v (R.getD k default).vals → CopyAt w R (k + 1) (xs ++ [.string (R.getD k default).key, .int .i64 (R.getD k default).op, v]) u) := fun h1 h2 => h1.snoc h2
      have HL : Hid ((R.getD k default).vals.length ≤ 140737488355328 ∧ ∀ s ∈ (R.getD k default).vals, s.size ≤ 140737488355328) := ⟨hv.1, hv.2.1⟩
      clear c0 c1 c2 hv
      generalize R.getD k default = r at d0 d1 d2 s0 hT HS HL hvl
      obtain ⟨q0, q1, q2, q3⟩ := ReqBox.new wr r.key r.op a' r.vals.length capv
      have z2 : (wr.alloc (.cells #[.string r.key, .int .i64 r.op, .slice a' r.vals.length capv] 41)).frozen? ⟨wr.heap.size, 2, none⟩ = false := by simp [go_sem]
      go_wp2_with fail
      refine hT.mono ?_
      rintro e w2 ⟨vv, rfl, hOv⟩
      obtain ⟨b, capb, rfl⟩ := own_shape hOv.2
      have hbT := hOv.1
      have f0 := (hbT.cell (p := ⟨wr.heap.size, 0, none⟩) q0).trans q1
      have f1 := (hbT.cell (p := ⟨wr.heap.size, 1, none⟩) q0).trans q2
      have f2 := (hbT.cell (p := ⟨wr.heap.size, 2, none⟩) q0).trans q3
      have f3 := (hbT.frozen (p := ⟨wr.heap.size, 2, none⟩) q0).trans z2
      have hD : wr.heap.size < w2.heap.size := Nat.lt_of_lt_of_le q0 hbT.size
      have hb3 : Below wr.heap.size wr (w2.setCell ⟨wr.heap.size, 2, none⟩ (.slice b r.vals.length capb)) := (((Below.refl wr.heap.size wr).alloc (Nat.le_refl _) _).trans (hbT.mono (by simp))).setCell (Nat.le_refl _) _
      have g0 : (w2.setCell ⟨wr.heap.size, 2, none⟩ (.slice b r.vals.length capb)).cell? ⟨wr.heap.size, 0, none⟩ = some (.string r.key) := by rw [World.cell?_setCell_other (h := by simp)]; exact f0
      have g1 : (w2.setCell ⟨wr.heap.size, 2, none⟩ (.slice b r.vals.length capb)).cell? ⟨wr.heap.size, 1, none⟩ = some (.int .i64 r.op) := by rw [World.cell?_setCell_other (h := by simp)]; exact f1
      have g2 : (w2.setCell ⟨wr.heap.size, 2, none⟩ (.slice b r.vals.length capb)).cell? ⟨wr.heap.size, 2, none⟩ = some (.slice b r.vals.length capb) := World.cell?_setCell_same (h := f2) ..
      have hV3 : Hid (ValAt w (w2.setCell ⟨wr.heap.size, 2, none⟩ (.slice b r.vals.length capb)) (.slice b r.vals.length capb) r.vals) := by
        refine ⟨on2 hbel hb3, HL.out.1, HL.out.2, .inr ?_⟩
        have h1 := ownsRow_setCell_below hOv.2 (a := ⟨wr.heap.size, 2, none⟩) (by simp) (.slice b r.vals.length capb)
        exact Go.Joins.ownsRow_le h1 (by have := hbel.size; simp; omega)
      have hO3 := hO.on hb3
      have hC3 := hC.on hb3
      have hO4 : Hid (Own w ((w2.setCell ⟨wr.heap.size, 2, none⟩ (.slice b r.vals.length capb)).alloc (.cells #[.string r.key, .int .i64 r.op, .slice b r.vals.length capb] 41)) 41 3 u3 k xs) := hO3.on (by go_grown)
      have hC4 : Hid (CopyAt w R k xs ((w2.setCell ⟨wr.heap.size, 2, none⟩ (.slice b r.vals.length capb)).alloc (.cells #[.string r.key, .int .i64 r.op, .slice b r.vals.length capb] 41))) := hC3.on (by go_grown)
      have hV4 : Hid (ValAt w ((w2.setCell ⟨wr.heap.size, 2, none⟩ (.slice b r.vals.length capb)).alloc (.cells #[.string r.key, .int .i64 r.op, .slice b r.vals.length capb] 41)) (.slice b r.vals.length capb) r.vals) := hV3.out.on (by go_grown)
      have HNW : Hid (∀ j q, ([.string r.key, .int .i64 r.op, .slice b r.vals.length capb] : List Value)[j]? = some q → ((w2.setCell ⟨wr.heap.size, 2, none⟩ (.slice b r.vals.length capb)).alloc (.cells #[.string r.key, .int .i64 r.op, .slice b r.vals.length capb] 41)).cell? ((⟨(w2.setCell ⟨wr.heap.size, 2, none⟩ (.slice b r.vals.length capb)).heap.size, 0, none⟩ : Addr).add j) = some q) := new3 _ _ _ _ _
      simp only [World.size_setCell] at HNW
      clear hT hOv hbT q0 q1 q2 q3 z2 hO hC hO3 hC3 hV3
      go_wp2_with (at_builtin; go_must (refine own_append2 (w0 := w) rfl _ _ 23 41 rfl _ 3 48 infoReq Try.underlying23 rfl (by decide) _ k xs rfl hO4.out ⟨w2.heap.size, 0, none⟩ 1 1 [.string r.key, .int .i64 r.op, .slice b r.vals.length capb] rfl rfl HNW.out (by intro y hy; simp at hy; rcases hy with rfl | rfl | rfl <;> rfl) (by unfold maxLen; omega) (by omega) ?_); intro v5 w5 hown5 hgrow5)
      go_roundw
      case rel => exact ⟨k + 1, _, by omega, by go_num, hown5, HS.out (hC4.out.grown hO4.out hgrow5) (hV4.out.grown hO4.out hgrow5)⟩
      case measure => simp [intOf]; omega
    · obtain rfl : k = R.length := by omega
      go_wp2_with fail
      go_ret
      exact ⟨_, xs, rfl, hO, hC⟩
end Go.Proofs.Ytpehmobedcflnaa
