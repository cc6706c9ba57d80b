/-
  DERIVED. GIVEN WITH THE SEED: THE CARDS: each row of YtfnafgmengefaaaGreatDoorRows.lean that lists a variable, with what it lists TIED to the program's text (the seventh form; the later family's looks); each row that meets fmt, with fmt's text TOLD by the authors' own Lean function (tested against real Go, not proved from fmt's source: count such statements apart). THE CARD IS WHAT COUNTS. Prove the row's statement (the work); the ties are given (YtfnafgmengefaaaGreatDoorTie.lean); close each card by the builder's one call (the guide's Derived/Test/ToyasCard.lean, 'card_holds'). Laid BY PROGRAM, IN A SANDBOX (cutbox-door.mjs). By AI agents, Wed Nov 11 2026. No macro, syntax, notation, axiom, sorry.
-/
import Derived.Test.YtfnafgmengefaaaGreatDoorRows
import GoSem.ClaimSeven
namespace Go.Proofs.YtfnafgmengefaaaGreatDoor
namespace Rows

/-- THE TIED CARD OF 'stevedorelaw08.NearChecks'. -/
def nearChecksCard : Claim7 := { stood := { row := nearChecksRow, standIns := [], harness := (true, "3448a96b0cb419218df9703e445298df8b7583dde17123f98328ceca37fea6d7"), looks := true }, kinds := [], alts := [], laidByText := true, laidKinds := [.data, .data, .data], laidTests := true, laidLooks := .later }
def NearChecksCardSaid : Prop := Claim7.holds Tryz.pinned (.plain (OpenSpec.ofChange nearChecksSpec)) nearChecksCard

/-- THE TIED CARD OF 'stevedorelaw08.NearTables'. -/
def nearTablesCard : Claim7 := { stood := { row := nearTablesRow, standIns := [], harness := (true, "3448a96b0cb419218df9703e445298df8b7583dde17123f98328ceca37fea6d7"), looks := true }, kinds := [], alts := [], laidByText := true, laidKinds := [.data, .data, .data], laidTests := true, laidLooks := .later }
def NearTablesCardSaid : Prop := Claim7.holds Tryz.pinned (.plain (OpenSpec.ofChange nearTablesSpec)) nearTablesCard

/-- THE SECOND FORM's CARD OF 'stevedorelaw08.NearChecks'. -/
def nearChecksUptoCard : Claim7 := { stood := { row := nearChecksUptoRow, standIns := [], harness := (true, "3448a96b0cb419218df9703e445298df8b7583dde17123f98328ceca37fea6d7"), looks := true }, kinds := [], alts := [], laidByText := true, laidKinds := [.data, .data, .data], laidTests := true, laidLooks := .later }
def NearChecksUptoCardSaid : Prop := Claim7.holds Tryz.pinned (.plain (OpenSpec.upto nearChecksSpec)) nearChecksUptoCard

/-- THE SECOND FORM's CARD OF 'stevedorelaw08.NearTables'. -/
def nearTablesUptoCard : Claim7 := { stood := { row := nearTablesUptoRow, standIns := [], harness := (true, "3448a96b0cb419218df9703e445298df8b7583dde17123f98328ceca37fea6d7"), looks := true }, kinds := [], alts := [], laidByText := true, laidKinds := [.data, .data, .data], laidTests := true, laidLooks := .later }
def NearTablesUptoCardSaid : Prop := Claim7.holds Tryz.pinned (.plain (OpenSpec.upto nearTablesSpec)) nearTablesUptoCard
end Rows
end Go.Proofs.YtfnafgmengefaaaGreatDoor
