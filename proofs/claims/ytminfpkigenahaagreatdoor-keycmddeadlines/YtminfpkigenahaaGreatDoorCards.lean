/-
  DERIVED. GIVEN WITH THE SEED: THE CARDS: each row of YtminfpkigenahaaGreatDoorRows.lean that lists a variable, with what it lists TIED to the program's text (the seventh form; the later family's looks); each row that meets fmt, with fmt's text TOLD by the authors' own Lean function (tested against real Go, not proved from fmt's source: count such statements apart). THE CARD IS WHAT COUNTS. Prove the row's statement (the work); the ties are given (YtminfpkigenahaaGreatDoorTie.lean); close each card by the builder's one call (the guide's Derived/Test/ToyasCard.lean, 'card_holds'). Laid BY PROGRAM, IN A SANDBOX (cutbox-door.mjs). By AI agents, Wed Nov 11 2026. No macro, syntax, notation, axiom, sorry.
-/
import Derived.Test.YtminfpkigenahaaGreatDoorRows
import GoSem.ClaimSeven
namespace Go.Proofs.YtminfpkigenahaaGreatDoor
namespace Rows

/-- THE TIED CARD OF 'covenantlaw18.KeycmdDeadlines'. -/
def keycmdDeadlinesCard : Claim7 := { stood := { row := keycmdDeadlinesRow, standIns := [], harness := (true, "96f2bc4c877666d1ab8bb5cc39da48032c4bf8ceb260790826ec8347fa0ee731"), looks := true }, kinds := [], alts := [], laidByText := true, laidKinds := [.data, .data, .data, .sentinel, .sentinel], laidTests := true, laidLooks := .later }
def KeycmdDeadlinesCardSaid : Prop := Claim7.holds Tryz.pinned (.plain (OpenSpec.ofChange keycmdDeadlinesSpec)) keycmdDeadlinesCard

/-- THE SECOND FORM's CARD OF 'covenantlaw18.KeycmdDeadlines'. -/
def keycmdDeadlinesUptoCard : Claim7 := { stood := { row := keycmdDeadlinesUptoRow, standIns := [], harness := (true, "96f2bc4c877666d1ab8bb5cc39da48032c4bf8ceb260790826ec8347fa0ee731"), looks := true }, kinds := [], alts := [], laidByText := true, laidKinds := [.data, .data, .data, .sentinel, .sentinel], laidTests := true, laidLooks := .later }
def KeycmdDeadlinesUptoCardSaid : Prop := Claim7.holds Tryz.pinned (.plain (OpenSpec.upto keycmdDeadlinesSpec)) keycmdDeadlinesUptoCard
end Rows
end Go.Proofs.YtminfpkigenahaaGreatDoor
