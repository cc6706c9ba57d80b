/-
  DERIVED. GIVEN WITH THE SEED: THE CARDS: each row of YtglbenjbnlkmaaaGreatDoorRows.lean that lists a variable, with what it lists TIED to the program's text (the seventh form; the later family's looks); each row that meets fmt, with fmt's text TOLD by the authors' own Lean function (tested against real Go, not proved from fmt's source: count such statements apart). THE CARD IS WHAT COUNTS. Prove the row's statement (the work); the ties are given (YtglbenjbnlkmaaaGreatDoorTie.lean); close each card by the builder's one call (the guide's Derived/Test/ToyasCard.lean, 'card_holds'). Laid BY PROGRAM, IN A SANDBOX (cutbox-door.mjs). By AI agents, Wed Nov 11 2026. No macro, syntax, notation, axiom, sorry.
-/
import Derived.Test.YtglbenjbnlkmaaaGreatDoorRows
import GoSem.ClaimSeven
namespace Go.Proofs.YtglbenjbnlkmaaaGreatDoor
namespace Rows

/-- THE TIED CARD OF 'stevedorelaw08.NearChecks'. -/
def nearChecksCard : Claim7 := { stood := { row := nearChecksRow, standIns := [], harness := (true, "f985ffac5cc656b379031683c1b51eb12b3b10ffd7131d401cd61837ef3104c3"), looks := true }, kinds := [], alts := [], laidByText := true, laidKinds := [.data, .data, .data], laidTests := true, laidLooks := .later }
def NearChecksCardSaid : Prop := Claim7.holds Tryz.pinned (.plain (OpenSpec.ofChange nearChecksSpec)) nearChecksCard

/-- THE TIED CARD OF 'stevedorelaw08.NearTables'. -/
def nearTablesCard : Claim7 := { stood := { row := nearTablesRow, standIns := [], harness := (true, "f985ffac5cc656b379031683c1b51eb12b3b10ffd7131d401cd61837ef3104c3"), looks := true }, kinds := [], alts := [], laidByText := true, laidKinds := [.data, .data, .data], laidTests := true, laidLooks := .later }
def NearTablesCardSaid : Prop := Claim7.holds Tryz.pinned (.plain (OpenSpec.ofChange nearTablesSpec)) nearTablesCard

/-- THE TIED CARD OF 'stevedorelaw08.NearOrder'. -/
def nearOrderCard : Claim7 := { stood := { row := nearOrderRow, standIns := [], harness := (true, "f985ffac5cc656b379031683c1b51eb12b3b10ffd7131d401cd61837ef3104c3"), looks := true }, kinds := [], alts := [], laidByText := true, laidKinds := [.data, .data, .data], laidTests := true, laidLooks := .later }
def NearOrderCardSaid : Prop := Claim7.holds Tryz.pinned (.plain (OpenSpec.ofChange nearOrderSpec)) nearOrderCard

/-- THE SECOND FORM's CARD OF 'stevedorelaw08.NearChecks'. -/
def nearChecksUptoCard : Claim7 := { stood := { row := nearChecksUptoRow, standIns := [], harness := (true, "f985ffac5cc656b379031683c1b51eb12b3b10ffd7131d401cd61837ef3104c3"), looks := true }, kinds := [], alts := [], laidByText := true, laidKinds := [.data, .data, .data], laidTests := true, laidLooks := .later }
def NearChecksUptoCardSaid : Prop := Claim7.holds Tryz.pinned (.plain (OpenSpec.upto nearChecksSpec)) nearChecksUptoCard

/-- THE SECOND FORM's CARD OF 'stevedorelaw08.NearTables'. -/
def nearTablesUptoCard : Claim7 := { stood := { row := nearTablesUptoRow, standIns := [], harness := (true, "f985ffac5cc656b379031683c1b51eb12b3b10ffd7131d401cd61837ef3104c3"), looks := true }, kinds := [], alts := [], laidByText := true, laidKinds := [.data, .data, .data], laidTests := true, laidLooks := .later }
def NearTablesUptoCardSaid : Prop := Claim7.holds Tryz.pinned (.plain (OpenSpec.upto nearTablesSpec)) nearTablesUptoCard

/-- THE SECOND FORM's CARD OF 'stevedorelaw08.NearOrder'. -/
def nearOrderUptoCard : Claim7 := { stood := { row := nearOrderUptoRow, standIns := [], harness := (true, "f985ffac5cc656b379031683c1b51eb12b3b10ffd7131d401cd61837ef3104c3"), looks := true }, kinds := [], alts := [], laidByText := true, laidKinds := [.data, .data, .data], laidTests := true, laidLooks := .later }
def NearOrderUptoCardSaid : Prop := Claim7.holds Tryz.pinned (.plain (OpenSpec.upto nearOrderSpec)) nearOrderUptoCard
end Rows
end Go.Proofs.YtglbenjbnlkmaaaGreatDoor
