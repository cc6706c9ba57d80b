/-
  DERIVED. GIVEN WITH THE SEED: THE CARDS: each row of YtillkgflppabfaaDoorRows.lean that lists a variable, with what it lists TIED to the program's text (the seventh form; the later family's looks); each row that meets fmt, with fmt's text TOLD by the authors' own Lean function (tested against real Go, not proved from fmt's source: count such statements apart). THE CARD IS WHAT COUNTS. Prove the row's statement (the work); the ties are given (YtillkgflppabfaaDoorTie.lean); close each card by the builder's one call (the guide's Derived/Test/ToyasCard.lean, 'card_holds'). Laid BY PROGRAM, IN A SANDBOX (cutbox-door.mjs). By AI agents, Wed Nov 11 2026. No macro, syntax, notation, axiom, sorry.
-/
import Derived.Test.YtillkgflppabfaaDoorRows
import GoSem.ClaimSeven
namespace Go.Proofs.YtillkgflppabfaaDoor
namespace Rows

/-- THE TIED CARD OF 'stevedorelaw09.SpreadLeast'. -/
def spreadLeastCard : Claim7 := { stood := { row := spreadLeastRow, standIns := [], harness := (true, "0d5b82363825c70c5c9b39ac23865aaf677a86fc474115b52a54ed4d82da3a1b"), looks := false }, kinds := [], alts := [], laidByText := true, laidKinds := [.data, .data, .data], laidTests := true, laidLooks := .later }
def SpreadLeastCardSaid : Prop := Claim7.holds Tryd.pinned (.plain (OpenSpec.ofChange spreadLeastSpec)) spreadLeastCard

/-- THE SECOND FORM's CARD OF 'stevedorelaw09.SpreadLeast'. -/
def spreadLeastUptoCard : Claim7 := { stood := { row := spreadLeastUptoRow, standIns := [], harness := (true, "0d5b82363825c70c5c9b39ac23865aaf677a86fc474115b52a54ed4d82da3a1b"), looks := false }, kinds := [], alts := [], laidByText := true, laidKinds := [.data, .data, .data], laidTests := true, laidLooks := .later }
def SpreadLeastUptoCardSaid : Prop := Claim7.holds Tryd.pinned (.plain (OpenSpec.upto spreadLeastSpec)) spreadLeastUptoCard
end Rows
end Go.Proofs.YtillkgflppabfaaDoor
