/-
  DERIVED. GIVEN WITH THE SEED: THE CARDS: each row of YtfnafgmengefaaaDoorRows.lean that lists a variable, with what it lists TIED to the program's text (the seventh form; the later family's looks); each row that meets fmt, with fmt's text TOLD by the authors' own Lean function (tested against real Go, not proved from fmt's source: count such statements apart). THE CARD IS WHAT COUNTS. Prove the row's statement (the work); the ties are given (YtfnafgmengefaaaDoorTie.lean); close each card by the builder's one call (the guide's Derived/Test/ToyasCard.lean, 'card_holds'). Laid BY PROGRAM, IN A SANDBOX (cutbox-door.mjs). By AI agents, Wed Nov 11 2026. No macro, syntax, notation, axiom, sorry.
-/
import Derived.Test.YtfnafgmengefaaaDoorRows
import GoSem.ClaimSeven
namespace Go.Proofs.YtfnafgmengefaaaDoor
namespace Rows

/-- THE TIED CARD OF 'stevedorelaw08.NearOrder'. -/
def nearOrderCard : Claim7 := { stood := { row := nearOrderRow, standIns := [], harness := (true, "9f82be1448c57d57d5e57dd65e222541475619f32672734d0c020f7c4eb681ac"), looks := true }, kinds := [], alts := [], laidByText := true, laidKinds := [.data, .data, .data], laidTests := true, laidLooks := .later }
def NearOrderCardSaid : Prop := Claim7.holds Tryd.pinned (.plain (OpenSpec.ofChange nearOrderSpec)) nearOrderCard

/-- THE TIED CARD OF 'stevedorelaw08.NearFree'. -/
def nearFreeCard : Claim7 := { stood := { row := nearFreeRow, standIns := [], harness := (true, "9f82be1448c57d57d5e57dd65e222541475619f32672734d0c020f7c4eb681ac"), looks := true }, kinds := [], alts := [], laidByText := true, laidKinds := [.data, .data, .data], laidTests := true, laidLooks := .later }
def NearFreeCardSaid : Prop := Claim7.holds Tryd.pinned (.plain (OpenSpec.ofChange nearFreeSpec)) nearFreeCard

/-- THE TIED CARD OF 'stevedorelaw08.NearBoth'. -/
def nearBothCard : Claim7 := { stood := { row := nearBothRow, standIns := [], harness := (true, "9f82be1448c57d57d5e57dd65e222541475619f32672734d0c020f7c4eb681ac"), looks := true }, kinds := [], alts := [], laidByText := true, laidKinds := [.data, .data, .data], laidTests := true, laidLooks := .later }
def NearBothCardSaid : Prop := Claim7.holds Tryd.pinned (.plain (OpenSpec.ofChange nearBothSpec)) nearBothCard

/-- THE TIED CARD OF 'stevedorelaw08.NearNone'. -/
def nearNoneCard : Claim7 := { stood := { row := nearNoneRow, standIns := [], harness := (true, "9f82be1448c57d57d5e57dd65e222541475619f32672734d0c020f7c4eb681ac"), looks := true }, kinds := [], alts := [], laidByText := true, laidKinds := [.data, .data, .data], laidTests := true, laidLooks := .later }
def NearNoneCardSaid : Prop := Claim7.holds Tryd.pinned (.plain (OpenSpec.ofChange nearNoneSpec)) nearNoneCard

/-- THE SECOND FORM's CARD OF 'stevedorelaw08.NearOrder'. -/
def nearOrderUptoCard : Claim7 := { stood := { row := nearOrderUptoRow, standIns := [], harness := (true, "9f82be1448c57d57d5e57dd65e222541475619f32672734d0c020f7c4eb681ac"), looks := true }, kinds := [], alts := [], laidByText := true, laidKinds := [.data, .data, .data], laidTests := true, laidLooks := .later }
def NearOrderUptoCardSaid : Prop := Claim7.holds Tryd.pinned (.plain (OpenSpec.upto nearOrderSpec)) nearOrderUptoCard

/-- THE SECOND FORM's CARD OF 'stevedorelaw08.NearFree'. -/
def nearFreeUptoCard : Claim7 := { stood := { row := nearFreeUptoRow, standIns := [], harness := (true, "9f82be1448c57d57d5e57dd65e222541475619f32672734d0c020f7c4eb681ac"), looks := true }, kinds := [], alts := [], laidByText := true, laidKinds := [.data, .data, .data], laidTests := true, laidLooks := .later }
def NearFreeUptoCardSaid : Prop := Claim7.holds Tryd.pinned (.plain (OpenSpec.upto nearFreeSpec)) nearFreeUptoCard

/-- THE SECOND FORM's CARD OF 'stevedorelaw08.NearBoth'. -/
def nearBothUptoCard : Claim7 := { stood := { row := nearBothUptoRow, standIns := [], harness := (true, "9f82be1448c57d57d5e57dd65e222541475619f32672734d0c020f7c4eb681ac"), looks := true }, kinds := [], alts := [], laidByText := true, laidKinds := [.data, .data, .data], laidTests := true, laidLooks := .later }
def NearBothUptoCardSaid : Prop := Claim7.holds Tryd.pinned (.plain (OpenSpec.upto nearBothSpec)) nearBothUptoCard

/-- THE SECOND FORM's CARD OF 'stevedorelaw08.NearNone'. -/
def nearNoneUptoCard : Claim7 := { stood := { row := nearNoneUptoRow, standIns := [], harness := (true, "9f82be1448c57d57d5e57dd65e222541475619f32672734d0c020f7c4eb681ac"), looks := true }, kinds := [], alts := [], laidByText := true, laidKinds := [.data, .data, .data], laidTests := true, laidLooks := .later }
def NearNoneUptoCardSaid : Prop := Claim7.holds Tryd.pinned (.plain (OpenSpec.upto nearNoneSpec)) nearNoneUptoCard
end Rows
end Go.Proofs.YtfnafgmengefaaaDoor
