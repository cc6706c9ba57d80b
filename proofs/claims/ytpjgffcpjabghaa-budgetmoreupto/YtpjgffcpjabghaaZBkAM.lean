/- Texts as they come in, with a bound on their number. No condition beyond the row's own reach. -/
import Derived.Test.YtpjgffcpjabghaaW03
namespace Go.Proofs.Ytpjgffcpjabghaa
open Go.ChangeShapes Go.WideShapes Go.ChangeAt Go.RowKit
set_option linter.unusedSimpArgs false

theorem opensM_strs18 : OpensM (RSl RStr 1 16) (sumBy (fun _ => 1)) 30 := opensM_slice RStr.firm Try.underlying30 (by kernel_rfl) (by kernel_rfl) (by decide) (Opens.m opens_str)
theorem sum_len18 {α : Type} : ∀ L : List α, sumBy (fun _ => 1) L = L.length
  | [] => rfl
  | _ :: r => by
    have h := sum_len18 r
    show 1 + sumBy (fun _ => 1) r = r.length + 1
    rw [h]; omega
end Go.Proofs.Ytpjgffcpjabghaa
