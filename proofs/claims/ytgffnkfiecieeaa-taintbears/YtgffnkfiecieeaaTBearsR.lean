/- The document's own Bears returns what the plain function says, and changes nothing that was there. No condition. -/
import Derived.Test.YtgffnkfiecieeaaTPlain
namespace Go.Proofs.Ytgffnkfiecieeaa
open Go.RowKit
set_option linter.unusedSimpArgs false

theorem rb_paths (z q x n ba y r : Bool) (h : r = ((z || q) && (x || (n && ba)) && (ba || y))) :
    (z = false ∧ q = false ∧ r = false) ∨
    ((z = true ∨ (z = false ∧ q = true)) ∧ ((x = false ∧ n = false ∧ r = false) ∨ (x = false ∧ n = true ∧ ba = false ∧ r = false) ∨ (x = false ∧ n = true ∧ ba = true ∧ r = true) ∨ (x = true ∧ ba = true ∧ r = true) ∨ (x = true ∧ ba = false ∧ r = y))) := by
  subst h
  cases z <;> cases q <;> cases x <;> cases n <;> cases ba <;> simp

set_option maxHeartbeats 4000000 in
theorem rBears_calls (bk bv : ByteArray) (ba : Bool) (be : Int) (tk tv : ByteArray) (te : Int) (w : World) : Calls Try.prog 20 #[.agg #[.string bk, .string bv, .bool ba, .int .i64 be], .agg #[.string tk, .string tv, .int .i64 te]] w fun e w' => e = .returned (.bool (bearsB (bk, bv, ba, be) (tk, tv, te))) ∧ Below w.heap.size w w' := by
  have HM : bearsB (bk, bv, ba, be) (tk, tv, te) = ((be == 0 || be == te) && ((bk.toList == tk.toList) || (bk.toList.isEmpty && ba)) && (ba || (bv.toList == tv.toList))) := rfl
  generalize bearsB (bk, bv, ba, be) (tk, tv, te) = r at HM ⊢
  obtain ⟨n, hn⟩ : ∃ n, bk.toList.isEmpty = n := ⟨_, rfl⟩
  obtain ⟨z, hz⟩ : ∃ z, (be == 0) = z := ⟨_, rfl⟩
  obtain ⟨q, hq⟩ : ∃ q, (be == te) = q := ⟨_, rfl⟩
  obtain ⟨x, hx⟩ : ∃ x, (bk.toList == tk.toList) = x := ⟨_, rfl⟩
  obtain ⟨y, hy⟩ : ∃ y, (bv.toList == tv.toList) = y := ⟨_, rfl⟩
  rw [hn, hz, hq, hx, hy] at HM
  have hz' : (be != 0) = !z := by rw [← hz]; rfl
  have hq' : (be != te) = !q := by rw [← hq]; rfl
  have HP := rb_paths z q x n ba y r HM
  clear HM hz hq
  rcases HP with ⟨rfl, rfl, rfl⟩ | ⟨rfl | ⟨rfl, rfl⟩, ⟨rfl, rfl, rfl⟩ | ⟨rfl, rfl, rfl, rfl⟩ | ⟨rfl, rfl, rfl, rfl⟩ | ⟨rfl, rfl, rfl⟩ | ⟨rfl, rfl, rfl⟩⟩ <;> (
    simp only [Bool.not_true, Bool.not_false] at hz' hq'
    go_enter Try.func20, Try.ntmps20
    go_wp2
    go_ret
    exact ⟨rfl, by go_grown⟩)
end Go.Proofs.Ytgffnkfiecieeaa
