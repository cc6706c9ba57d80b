/- base.Texts, Ints, Labels give slices of their own that hold the same. Condition: the slice holds what is said of it. -/
import Derived.Test.YtnlmipgmakmbiaaDTypes
namespace Go.Proofs.Ytnlmipgmakmbiaa
open Go.RowKit
set_option linter.unusedSimpArgs false

/-- What is told so hangs on no memory. -/
def Flat {α : Type} (R : Rep α) : Prop := ∀ (A A' : Where) (w w' : World) (cs : List Value) (x : α), R A w cs x → R A' w' cs x
theorem RStr.flat : Flat RStr := fun _ _ _ _ _ _ h => h
theorem RInt.flat : Flat RInt := fun _ _ _ _ _ _ h => h
theorem RBool.flat : Flat RBool := fun _ _ _ _ _ _ h => h
theorem Flat.pair {α β : Type} {R : Rep α} {S : Rep β} (hR : Flat R) (hS : Flat S) : Flat (RPair R S) := by
  rintro A A' w w' cs x ⟨c, d, e, h1, h2⟩
  exact ⟨c, d, e, hR _ _ _ _ _ _ h1, hS _ _ _ _ _ _ h2⟩
theorem Chunks.flat {α : Type} [Inhabited α] {R : Rep α} {k : Nat} (hF : Flat R) {A A' : Where} {u u' : World} {xs : List Value} {L : List α} (h : Chunks R k A u xs L) : Chunks R k A' u' xs L :=
  ⟨h.1, fun i hi => by obtain ⟨cs, h1, h2⟩ := h.2 i hi; exact ⟨cs, hF _ _ _ _ _ _ h1, h2⟩⟩
theorem RLabel.flat : Flat RLabel := Flat.pair RStr.flat RStr.flat
theorem RRes.flat : Flat RRes := Flat.pair RInt.flat (Flat.pair RInt.flat RInt.flat)
theorem RTaint.flat : Flat RTaint := Flat.pair RStr.flat (Flat.pair RStr.flat RInt.flat)
theorem RBear.flat : Flat RBear := Flat.pair RStr.flat (Flat.pair RStr.flat (Flat.pair RBool.flat RInt.flat))
theorem RClaim.flat : Flat RClaim := Flat.pair RStr.flat (Flat.pair RInt.flat (Flat.pair RStr.flat RStr.flat))
theorem RClass.flat : Flat RClass := Flat.pair RStr.flat RBool.flat
theorem sl_none {α : Type} [Inhabited α] {R : Rep α} {k bytes : Nat} {A : Where} {w : World} {n cap : Nat} {L : List α} (h : SlAt R k bytes A w none n cap L) : n = 0 ∧ cap = 0 ∧ L = [] := by
  have h0 : cap = 0 := h.2.2.1 rfl
  have h1 := h.2.1
  exact ⟨by omega, h0, List.length_eq_zero_iff.1 (by rw [h.1]; omega)⟩
theorem SlAt.len {α : Type} [Inhabited α] {R : Rep α} {k bytes : Nat} {A : Where} {w : World} {a : Option Addr} {n cap : Nat} {L : List α} (h : SlAt R k bytes A w a n cap L) (hb : 1 ≤ bytes) : n ≤ 140737488351232 := by
  have := h.2.2.2.1
  have h2 : n * 1 ≤ n * bytes := Nat.mul_le_mul_left _ hb
  omega
theorem infostr : (Try.prog.info? 9).map (fun i => (i.zero, i.size, i.bytes)) = some (some (.string ⟨#[]⟩), 1, 16) := by kernel_rfl
theorem infoint : (Try.prog.info? 3).map (fun i => (i.zero, i.size, i.bytes)) = some (some (.int .i64 0), 1, 8) := by kernel_rfl
theorem infoLabel : (Try.prog.info? 104).map (fun i => (i.zero, i.size, i.bytes)) = some (some (.agg #[.string ⟨#[]⟩, .string ⟨#[]⟩]), 2, 32) := by kernel_rfl

end Go.Proofs.Ytnlmipgmakmbiaa
