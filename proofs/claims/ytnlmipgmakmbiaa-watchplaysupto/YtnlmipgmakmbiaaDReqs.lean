/- base.Reqs gives a slice of its own, its values' texts copied too, that holds the same. Condition: the slice holds what is said of it. -/
import Derived.Test.YtnlmipgmakmbiaaDCopy
namespace Go.Proofs.Ytnlmipgmakmbiaa
open Go.RowKit
set_option linter.unusedSimpArgs false

theorem infoReq : (Try.prog.info? 112).map (fun i => (i.zero, i.size, i.bytes)) = some (some (.agg #[.string ⟨#[]⟩, .int .i64 0, .slice none 0 0]), 3, 48) := by kernel_rfl
/-- What has come since a later world is no part of the row. -/
theorem Row.apart {α : Type} [Inhabited α] {R : Rep α} {k : Nat} {A : Where} {w0 u u' : World} {e : TypeId} {v : Value} {L : List α} (h : Row R k A w0 u e v L) (hs : u.heap.size ≤ u'.heap.size) : ∀ b, Fresh u' b → Fresh w0 b ∧ v.ownBlock ≠ some b := by
  obtain ⟨xs, h1, _⟩ := h
  intro b hb
  have hb' : u'.heap.size ≤ b := hb
  have := h1.1.size
  refine ⟨show w0.heap.size ≤ b by omega, fun e => ?_⟩
  have := (h1.2.lt b e).2
  omega
theorem take_at {α : Type} [Inhabited α] {L : List α} {k : Nat} (hk : k < L.length) : L.take k ++ [L.getD k default] = L.take (k + 1) := (take_succ hk).symm
theorem bytes_le {n k bytes : Nat} (h : n * bytes ≤ 140737488351232) (hk : k < n) : (k + 1) * bytes ≤ 140737488355328 := by
  have : (k + 1) * bytes ≤ n * bytes := Nat.mul_le_mul_right _ hk
  omega

end Go.Proofs.Ytnlmipgmakmbiaa
