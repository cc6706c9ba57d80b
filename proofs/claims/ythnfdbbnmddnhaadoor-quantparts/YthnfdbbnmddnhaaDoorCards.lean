/-
  DERIVED. GIVEN WITH THE SEED: THE CARDS: each row of YthnfdbbnmddnhaaDoorRows.lean that lists a variable, with what it lists TIED to the program's text (the seventh form; the later family's looks); each row that meets fmt, with fmt's text TOLD by the authors' own Lean function (tested against real Go, not proved from fmt's source: count such statements apart). THE CARD IS WHAT COUNTS. Prove the row's statement (the work); the ties are given (YthnfdbbnmddnhaaDoorTie.lean); close each card by the builder's one call (the guide's Derived/Test/ToyasCard.lean, 'card_holds'). Laid BY PROGRAM, IN A SANDBOX (cutbox-door.mjs). By AI agents, Wed Nov 11 2026. No macro, syntax, notation, axiom, sorry.
-/
import Derived.Test.YthnfdbbnmddnhaaDoorRows
import GoSem.ClaimSeven
namespace Go.Proofs.YthnfdbbnmddnhaaDoor
namespace Rows

/-- THE TIED CARD OF 'stevedorelaw01.QuantReckons'. -/
def quantReckonsCard : Claim7 := { stood := { row := quantReckonsRow, standIns := [], harness := (true, "f53cdf9039e51421be6832e4ea74e0398467996b7f4b758ca17ca3fccf20591b"), looks := false }, kinds := [], alts := [], laidByText := true, laidKinds := [.data, .data, .data], laidTests := true, laidLooks := .later }
def QuantReckonsCardSaid : Prop := Claim7.holds Tryd.pinned (.plain (OpenSpec.ofChange quantReckonsSpec)) quantReckonsCard

/-- THE TIED CARD OF 'stevedorelaw01.QuantTexts'. -/
def quantTextsCard : Claim7 := { stood := { row := quantTextsRow, standIns := [], harness := (true, "f53cdf9039e51421be6832e4ea74e0398467996b7f4b758ca17ca3fccf20591b"), looks := false }, kinds := [], alts := [], laidByText := true, laidKinds := [.data, .data, .data], laidTests := true, laidLooks := .later }
def QuantTextsCardSaid : Prop := Claim7.holds Tryd.pinned (.plain (OpenSpec.ofChange quantTextsSpec)) quantTextsCard

/-- THE TIED CARD OF 'stevedorelaw01.QuantParts'. -/
def quantPartsCard : Claim7 := { stood := { row := quantPartsRow, standIns := [], harness := (true, "f53cdf9039e51421be6832e4ea74e0398467996b7f4b758ca17ca3fccf20591b"), looks := false }, kinds := [], alts := [], laidByText := true, laidKinds := [.data, .data, .data], laidTests := true, laidLooks := .later }
def QuantPartsCardSaid : Prop := Claim7.holds Tryd.pinned (.plain (OpenSpec.ofChange quantPartsSpec)) quantPartsCard

/-- THE TIED CARD OF 'stevedorelaw01.QuantOrder'. -/
def quantOrderCard : Claim7 := { stood := { row := quantOrderRow, standIns := [], harness := (true, "f53cdf9039e51421be6832e4ea74e0398467996b7f4b758ca17ca3fccf20591b"), looks := false }, kinds := [], alts := [], laidByText := true, laidKinds := [.data, .data, .data], laidTests := true, laidLooks := .later }
def QuantOrderCardSaid : Prop := Claim7.holds Tryd.pinned (.plain (OpenSpec.ofChange quantOrderSpec)) quantOrderCard

/-- THE TIED CARD OF 'stevedorelaw01.QuantBack'. -/
def quantBackCard : Claim7 := { stood := { row := quantBackRow, standIns := [], harness := (true, "f53cdf9039e51421be6832e4ea74e0398467996b7f4b758ca17ca3fccf20591b"), looks := false }, kinds := [], alts := [], laidByText := true, laidKinds := [.data, .data, .data], laidTests := true, laidLooks := .later }
def QuantBackCardSaid : Prop := Claim7.holds Tryd.pinned (.plain (OpenSpec.ofChange quantBackSpec)) quantBackCard

/-- THE TIED CARD OF 'stevedorelaw01.QuantFits'. -/
def quantFitsCard : Claim7 := { stood := { row := quantFitsRow, standIns := [], harness := (true, "f53cdf9039e51421be6832e4ea74e0398467996b7f4b758ca17ca3fccf20591b"), looks := false }, kinds := [], alts := [], laidByText := true, laidKinds := [.data, .data, .data], laidTests := true, laidLooks := .later }
def QuantFitsCardSaid : Prop := Claim7.holds Tryd.pinned (.plain (OpenSpec.ofChange quantFitsSpec)) quantFitsCard

/-- THE SECOND FORM's CARD OF 'stevedorelaw01.QuantReckons'. -/
def quantReckonsUptoCard : Claim7 := { stood := { row := quantReckonsUptoRow, standIns := [], harness := (true, "f53cdf9039e51421be6832e4ea74e0398467996b7f4b758ca17ca3fccf20591b"), looks := false }, kinds := [], alts := [], laidByText := true, laidKinds := [.data, .data, .data], laidTests := true, laidLooks := .later }
def QuantReckonsUptoCardSaid : Prop := Claim7.holds Tryd.pinned (.plain (OpenSpec.upto quantReckonsSpec)) quantReckonsUptoCard

/-- THE SECOND FORM's CARD OF 'stevedorelaw01.QuantTexts'. -/
def quantTextsUptoCard : Claim7 := { stood := { row := quantTextsUptoRow, standIns := [], harness := (true, "f53cdf9039e51421be6832e4ea74e0398467996b7f4b758ca17ca3fccf20591b"), looks := false }, kinds := [], alts := [], laidByText := true, laidKinds := [.data, .data, .data], laidTests := true, laidLooks := .later }
def QuantTextsUptoCardSaid : Prop := Claim7.holds Tryd.pinned (.plain (OpenSpec.upto quantTextsSpec)) quantTextsUptoCard

/-- THE SECOND FORM's CARD OF 'stevedorelaw01.QuantParts'. -/
def quantPartsUptoCard : Claim7 := { stood := { row := quantPartsUptoRow, standIns := [], harness := (true, "f53cdf9039e51421be6832e4ea74e0398467996b7f4b758ca17ca3fccf20591b"), looks := false }, kinds := [], alts := [], laidByText := true, laidKinds := [.data, .data, .data], laidTests := true, laidLooks := .later }
def QuantPartsUptoCardSaid : Prop := Claim7.holds Tryd.pinned (.plain (OpenSpec.upto quantPartsSpec)) quantPartsUptoCard

/-- THE SECOND FORM's CARD OF 'stevedorelaw01.QuantOrder'. -/
def quantOrderUptoCard : Claim7 := { stood := { row := quantOrderUptoRow, standIns := [], harness := (true, "f53cdf9039e51421be6832e4ea74e0398467996b7f4b758ca17ca3fccf20591b"), looks := false }, kinds := [], alts := [], laidByText := true, laidKinds := [.data, .data, .data], laidTests := true, laidLooks := .later }
def QuantOrderUptoCardSaid : Prop := Claim7.holds Tryd.pinned (.plain (OpenSpec.upto quantOrderSpec)) quantOrderUptoCard

/-- THE SECOND FORM's CARD OF 'stevedorelaw01.QuantBack'. -/
def quantBackUptoCard : Claim7 := { stood := { row := quantBackUptoRow, standIns := [], harness := (true, "f53cdf9039e51421be6832e4ea74e0398467996b7f4b758ca17ca3fccf20591b"), looks := false }, kinds := [], alts := [], laidByText := true, laidKinds := [.data, .data, .data], laidTests := true, laidLooks := .later }
def QuantBackUptoCardSaid : Prop := Claim7.holds Tryd.pinned (.plain (OpenSpec.upto quantBackSpec)) quantBackUptoCard

/-- THE SECOND FORM's CARD OF 'stevedorelaw01.QuantFits'. -/
def quantFitsUptoCard : Claim7 := { stood := { row := quantFitsUptoRow, standIns := [], harness := (true, "f53cdf9039e51421be6832e4ea74e0398467996b7f4b758ca17ca3fccf20591b"), looks := false }, kinds := [], alts := [], laidByText := true, laidKinds := [.data, .data, .data], laidTests := true, laidLooks := .later }
def QuantFitsUptoCardSaid : Prop := Claim7.holds Tryd.pinned (.plain (OpenSpec.upto quantFitsSpec)) quantFitsUptoCard
end Rows
end Go.Proofs.YthnfdbbnmddnhaaDoor
