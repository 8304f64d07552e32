/-
  DERIVED. GIVEN WITH THE SEED: THE CARDS: each row of YtdhgbbjadihocaaGreatDoorRows.lean that lists a variable, with what it lists TIED to the program's text (the seventh form; the later family's looks); each row that meets fmt, with fmt's text TOLD by the authors' own Lean function (tested against real Go, not proved from fmt's source: count such statements apart). THE CARD IS WHAT COUNTS. Prove the row's statement (the work); the ties are given (YtdhgbbjadihocaaGreatDoorTie.lean); close each card by the builder's one call (the guide's Derived/Test/ToyasCard.lean, 'card_holds'). Laid BY PROGRAM, IN A SANDBOX (cutbox-door.mjs). By AI agents, Wed Nov 11 2026. No macro, syntax, notation, axiom, sorry.
-/
import Derived.Test.YtdhgbbjadihocaaGreatDoorRows
import GoSem.ClaimSeven
namespace Go.Proofs.YtdhgbbjadihocaaGreatDoor
namespace Rows

/-- THE TIED CARD OF 'covenantlaw18.KeycmdNames'. -/
def keycmdNamesCard : Claim7 := { stood := { row := keycmdNamesRow, standIns := [], harness := (true, "e21511abb6072fad4c541691d149dee048ee7e03b367b46a1ebbf67720b636f3"), looks := true }, kinds := [], alts := [], laidByText := true, laidKinds := [.data, .data, .data, .sentinel, .sentinel], laidTests := true, laidLooks := .later }
def KeycmdNamesCardSaid : Prop := Claim7.holds Tryz.pinned (.plain (OpenSpec.ofChange keycmdNamesSpec)) keycmdNamesCard

/-- THE SECOND FORM's CARD OF 'covenantlaw18.KeycmdNames'. -/
def keycmdNamesUptoCard : Claim7 := { stood := { row := keycmdNamesUptoRow, standIns := [], harness := (true, "e21511abb6072fad4c541691d149dee048ee7e03b367b46a1ebbf67720b636f3"), looks := true }, kinds := [], alts := [], laidByText := true, laidKinds := [.data, .data, .data, .sentinel, .sentinel], laidTests := true, laidLooks := .later }
def KeycmdNamesUptoCardSaid : Prop := Claim7.holds Tryz.pinned (.plain (OpenSpec.upto keycmdNamesSpec)) keycmdNamesUptoCard
end Rows
end Go.Proofs.YtdhgbbjadihocaaGreatDoor
