/-
  DERIVED. GIVEN WITH THE SEED: THE CARDS: each row of YtoacbobchngooaaDoorRows.lean that lists a variable, with what it lists TIED to the program's text (the seventh form; the later family's looks); each row that meets fmt, with fmt's text TOLD by the authors' own Lean function (tested against real Go, not proved from fmt's source: count such statements apart). THE CARD IS WHAT COUNTS. Prove the row's statement (the work); the ties are given (YtoacbobchngooaaDoorTie.lean); close each card by the builder's one call (the guide's Derived/Test/ToyasCard.lean, 'card_holds'). Laid BY PROGRAM, IN A SANDBOX (cutbox-door.mjs). By AI agents, Wed Nov 11 2026. No macro, syntax, notation, axiom, sorry.
-/
import Derived.Test.YtoacbobchngooaaDoorRows
import GoSem.ClaimSeven
namespace Go.Proofs.YtoacbobchngooaaDoor
namespace Rows

/-- THE TIED CARD OF 'stevedorelaw17.FramePlays'. -/
def framePlaysCard : Claim7 := { stood := { row := framePlaysRow, standIns := [], harness := (true, "0cee3092e832c7ad63aceebc652eb4b6446d1989f600c7724e9aa2a517f89e96"), looks := false }, kinds := [], alts := [], laidByText := true, laidKinds := [.data, .data, .data], laidTests := true, laidLooks := .later }
def FramePlaysCardSaid : Prop := Claim7.holds Tryd.pinned (.plain (OpenSpec.ofChange framePlaysSpec)) framePlaysCard

/-- THE TIED CARD OF 'stevedorelaw17.FrameBack'. -/
def frameBackCard : Claim7 := { stood := { row := frameBackRow, standIns := [], harness := (true, "0cee3092e832c7ad63aceebc652eb4b6446d1989f600c7724e9aa2a517f89e96"), looks := false }, kinds := [], alts := [], laidByText := true, laidKinds := [.data, .data, .data], laidTests := true, laidLooks := .later }
def FrameBackCardSaid : Prop := Claim7.holds Tryd.pinned (.plain (OpenSpec.ofChange frameBackSpec)) frameBackCard

/-- THE TIED CARD OF 'stevedorelaw17.FrameEach'. -/
def frameEachCard : Claim7 := { stood := { row := frameEachRow, standIns := [], harness := (true, "0cee3092e832c7ad63aceebc652eb4b6446d1989f600c7724e9aa2a517f89e96"), looks := false }, kinds := [], alts := [], laidByText := true, laidKinds := [.data, .data, .data], laidTests := true, laidLooks := .later }
def FrameEachCardSaid : Prop := Claim7.holds Tryd.pinned (.plain (OpenSpec.ofChange frameEachSpec)) frameEachCard

/-- THE TIED CARD OF 'stevedorelaw17.FrameSkips'. -/
def frameSkipsCard : Claim7 := { stood := { row := frameSkipsRow, standIns := [], harness := (true, "0cee3092e832c7ad63aceebc652eb4b6446d1989f600c7724e9aa2a517f89e96"), looks := false }, kinds := [], alts := [], laidByText := true, laidKinds := [.data, .data, .data], laidTests := true, laidLooks := .later }
def FrameSkipsCardSaid : Prop := Claim7.holds Tryd.pinned (.plain (OpenSpec.ofChange frameSkipsSpec)) frameSkipsCard

/-- THE TIED CARD OF 'stevedorelaw17.FrameNone'. -/
def frameNoneCard : Claim7 := { stood := { row := frameNoneRow, standIns := [], harness := (true, "0cee3092e832c7ad63aceebc652eb4b6446d1989f600c7724e9aa2a517f89e96"), looks := false }, kinds := [], alts := [], laidByText := true, laidKinds := [.data, .data, .data], laidTests := true, laidLooks := .later }
def FrameNoneCardSaid : Prop := Claim7.holds Tryd.pinned (.plain (OpenSpec.ofChange frameNoneSpec)) frameNoneCard

/-- THE SECOND FORM's CARD OF 'stevedorelaw17.FramePlays'. -/
def framePlaysUptoCard : Claim7 := { stood := { row := framePlaysUptoRow, standIns := [], harness := (true, "0cee3092e832c7ad63aceebc652eb4b6446d1989f600c7724e9aa2a517f89e96"), looks := false }, kinds := [], alts := [], laidByText := true, laidKinds := [.data, .data, .data], laidTests := true, laidLooks := .later }
def FramePlaysUptoCardSaid : Prop := Claim7.holds Tryd.pinned (.plain (OpenSpec.upto framePlaysSpec)) framePlaysUptoCard

/-- THE SECOND FORM's CARD OF 'stevedorelaw17.FrameBack'. -/
def frameBackUptoCard : Claim7 := { stood := { row := frameBackUptoRow, standIns := [], harness := (true, "0cee3092e832c7ad63aceebc652eb4b6446d1989f600c7724e9aa2a517f89e96"), looks := false }, kinds := [], alts := [], laidByText := true, laidKinds := [.data, .data, .data], laidTests := true, laidLooks := .later }
def FrameBackUptoCardSaid : Prop := Claim7.holds Tryd.pinned (.plain (OpenSpec.upto frameBackSpec)) frameBackUptoCard

/-- THE SECOND FORM's CARD OF 'stevedorelaw17.FrameEach'. -/
def frameEachUptoCard : Claim7 := { stood := { row := frameEachUptoRow, standIns := [], harness := (true, "0cee3092e832c7ad63aceebc652eb4b6446d1989f600c7724e9aa2a517f89e96"), looks := false }, kinds := [], alts := [], laidByText := true, laidKinds := [.data, .data, .data], laidTests := true, laidLooks := .later }
def FrameEachUptoCardSaid : Prop := Claim7.holds Tryd.pinned (.plain (OpenSpec.upto frameEachSpec)) frameEachUptoCard

/-- THE SECOND FORM's CARD OF 'stevedorelaw17.FrameSkips'. -/
def frameSkipsUptoCard : Claim7 := { stood := { row := frameSkipsUptoRow, standIns := [], harness := (true, "0cee3092e832c7ad63aceebc652eb4b6446d1989f600c7724e9aa2a517f89e96"), looks := false }, kinds := [], alts := [], laidByText := true, laidKinds := [.data, .data, .data], laidTests := true, laidLooks := .later }
def FrameSkipsUptoCardSaid : Prop := Claim7.holds Tryd.pinned (.plain (OpenSpec.upto frameSkipsSpec)) frameSkipsUptoCard

/-- THE SECOND FORM's CARD OF 'stevedorelaw17.FrameNone'. -/
def frameNoneUptoCard : Claim7 := { stood := { row := frameNoneUptoRow, standIns := [], harness := (true, "0cee3092e832c7ad63aceebc652eb4b6446d1989f600c7724e9aa2a517f89e96"), looks := false }, kinds := [], alts := [], laidByText := true, laidKinds := [.data, .data, .data], laidTests := true, laidLooks := .later }
def FrameNoneUptoCardSaid : Prop := Claim7.holds Tryd.pinned (.plain (OpenSpec.upto frameNoneSpec)) frameNoneUptoCard
end Rows
end Go.Proofs.YtoacbobchngooaaDoor
