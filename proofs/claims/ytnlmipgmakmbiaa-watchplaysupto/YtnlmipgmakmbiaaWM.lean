/- Arguments of layer 13 as they come in, kinds with a bound on their number. No condition beyond the row's own reach. -/
import Derived.Test.YtnlmipgmakmbiaaWApW
import Derived.Test.YtnlmipgmakmbiaaDOpenM
namespace Go.Proofs.Ytnlmipgmakmbiaa
open Go.ChangeShapes Go.WideShapes Go.ChangeAt Go.RowKit
set_option linter.unusedSimpArgs false

theorem opensM_ints : OpensM (RSl RInt 1 8) (sumBy (fun _ => 1)) 22 := opensM_slice RInt.firm Try.underlying22 (by kernel_rfl) (by kernel_rfl) (by decide) (Opens.m opens_int)
theorem opens_Act : Opens RAct 31 := opens_struct (total := 3) Try.underlying31 (by kernel_rfl) (opensFs_cons (m := 1) rfl (by kernel_rfl) opens_int (opensFs_cons (m := 2) rfl (by kernel_rfl) opens_int (opensFs_last rfl (by kernel_rfl) opens_int)))
theorem opens_s_Act : Opens (RSl RAct 3 24) 23 := opens_slice RAct.firm Try.underlying23 (by kernel_rfl) (by kernel_rfl) (by decide) opens_Act
theorem sum_one13 {α : Type} : ∀ L : List α, sumBy (fun _ => 1) L = L.length
  | [] => rfl
  | _ :: L => by have := sum_one13 L; simp only [sumBy, List.map_cons, List.sum_cons, List.length_cons] at this ⊢; omega
end Go.Proofs.Ytnlmipgmakmbiaa
