/-
  DERIVED. GIVEN WITH THE SEED: THE CARDS: each row of YtillkgflppabfaaGreatDoorRows.lean that lists a variable, with what it lists TIED to the program's text (the seventh form; the later family's looks); each row that meets fmt, with fmt's text TOLD by the authors' own Lean function (tested against real Go, not proved from fmt's source: count such statements apart). THE CARD IS WHAT COUNTS. Prove the row's statement (the work); the ties are given (YtillkgflppabfaaGreatDoorTie.lean); close each card by the builder's one call (the guide's Derived/Test/ToyasCard.lean, 'card_holds'). Laid BY PROGRAM, IN A SANDBOX (cutbox-door.mjs). By AI agents, Wed Nov 11 2026. No macro, syntax, notation, axiom, sorry.
-/
import Derived.Test.YtillkgflppabfaaGreatDoorRows
import GoSem.ClaimSeven
namespace Go.Proofs.YtillkgflppabfaaGreatDoor
namespace Rows

/-- THE TIED CARD OF 'stevedorelaw09.SpreadCounts'. -/
def spreadCountsCard : Claim7 := { stood := { row := spreadCountsRow, standIns := [], harness := (true, "8a0f21918845c44d9ebdf6a412f8441478f345c1c74964ed30b7041ef05298f0"), looks := false }, kinds := [], alts := [], laidByText := true, laidKinds := [.data, .data, .data], laidTests := true, laidLooks := .later }
def SpreadCountsCardSaid : Prop := Claim7.holds Tryz.pinned (.plain (OpenSpec.ofChange spreadCountsSpec)) spreadCountsCard

/-- THE SECOND FORM's CARD OF 'stevedorelaw09.SpreadCounts'. -/
def spreadCountsUptoCard : Claim7 := { stood := { row := spreadCountsUptoRow, standIns := [], harness := (true, "8a0f21918845c44d9ebdf6a412f8441478f345c1c74964ed30b7041ef05298f0"), looks := false }, kinds := [], alts := [], laidByText := true, laidKinds := [.data, .data, .data], laidTests := true, laidLooks := .later }
def SpreadCountsUptoCardSaid : Prop := Claim7.holds Tryz.pinned (.plain (OpenSpec.upto spreadCountsSpec)) spreadCountsUptoCard
end Rows
end Go.Proofs.YtillkgflppabfaaGreatDoor
