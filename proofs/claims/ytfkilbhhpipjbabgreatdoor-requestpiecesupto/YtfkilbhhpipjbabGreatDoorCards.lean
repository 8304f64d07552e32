/-
  DERIVED. GIVEN WITH THE SEED: THE CARDS: each row of YtfkilbhhpipjbabGreatDoorRows.lean that lists a variable, with what it lists TIED to the program's text (the seventh form; the later family's looks); each row that meets fmt, with fmt's text TOLD by the authors' own Lean function (tested against real Go, not proved from fmt's source: count such statements apart). THE CARD IS WHAT COUNTS. Prove the row's statement (the work); the ties are given (YtfkilbhhpipjbabGreatDoorTie.lean); close each card by the builder's one call (the guide's Derived/Test/ToyasCard.lean, 'card_holds'). Laid BY PROGRAM, IN A SANDBOX (cutbox-door.mjs). By AI agents, Wed Nov 11 2026. No macro, syntax, notation, axiom, sorry.
-/
import Derived.Test.YtfkilbhhpipjbabGreatDoorRows
import GoSem.ClaimSeven
namespace Go.Proofs.YtfkilbhhpipjbabGreatDoor
namespace Rows

/-- THE TIED CARD OF 'covenantlaw04.RequestPieces'. -/
def requestPiecesCard : Claim7 := { stood := { row := requestPiecesRow, standIns := [], harness := (true, "1b9014a1ca0befde3d7a87ab7915767d425a9b3a743b765f5cbe9dcdc9c1a6a6"), looks := true }, kinds := [], alts := [], laidByText := true, laidKinds := [.data, .data, .data, .data, .sentinel, .sentinel, .pinned], laidTests := true, laidLooks := .later }
def RequestPiecesCardSaid : Prop := Claim7.holds Tryz.pinned (.plain (OpenSpec.ofChange requestPiecesSpec)) requestPiecesCard

/-- THE TIED CARD OF 'covenantlaw04.RequestBegins'. -/
def requestBeginsCard : Claim7 := { stood := { row := requestBeginsRow, standIns := [], harness := (true, "1b9014a1ca0befde3d7a87ab7915767d425a9b3a743b765f5cbe9dcdc9c1a6a6"), looks := true }, kinds := [], alts := [], laidByText := true, laidKinds := [.data, .data, .data, .data, .sentinel, .sentinel, .pinned], laidTests := true, laidLooks := .later }
def RequestBeginsCardSaid : Prop := Claim7.holds Tryz.pinned (.plain (OpenSpec.ofChange requestBeginsSpec)) requestBeginsCard

/-- THE SECOND FORM's CARD OF 'covenantlaw04.RequestPieces'. -/
def requestPiecesUptoCard : Claim7 := { stood := { row := requestPiecesUptoRow, standIns := [], harness := (true, "1b9014a1ca0befde3d7a87ab7915767d425a9b3a743b765f5cbe9dcdc9c1a6a6"), looks := true }, kinds := [], alts := [], laidByText := true, laidKinds := [.data, .data, .data, .data, .sentinel, .sentinel, .pinned], laidTests := true, laidLooks := .later }
def RequestPiecesUptoCardSaid : Prop := Claim7.holds Tryz.pinned (.plain (OpenSpec.upto requestPiecesSpec)) requestPiecesUptoCard

/-- THE SECOND FORM's CARD OF 'covenantlaw04.RequestBegins'. -/
def requestBeginsUptoCard : Claim7 := { stood := { row := requestBeginsUptoRow, standIns := [], harness := (true, "1b9014a1ca0befde3d7a87ab7915767d425a9b3a743b765f5cbe9dcdc9c1a6a6"), looks := true }, kinds := [], alts := [], laidByText := true, laidKinds := [.data, .data, .data, .data, .sentinel, .sentinel, .pinned], laidTests := true, laidLooks := .later }
def RequestBeginsUptoCardSaid : Prop := Claim7.holds Tryz.pinned (.plain (OpenSpec.upto requestBeginsSpec)) requestBeginsUptoCard
end Rows
end Go.Proofs.YtfkilbhhpipjbabGreatDoor
