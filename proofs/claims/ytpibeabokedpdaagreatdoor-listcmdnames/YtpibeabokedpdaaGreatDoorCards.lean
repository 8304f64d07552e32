/-
  DERIVED. GIVEN WITH THE SEED: THE CARDS: each row of YtpibeabokedpdaaGreatDoorRows.lean that lists a variable, with what it lists TIED to the program's text (the seventh form; the later family's looks); each row that meets fmt, with fmt's text TOLD by the authors' own Lean function (tested against real Go, not proved from fmt's source: count such statements apart). THE CARD IS WHAT COUNTS. Prove the row's statement (the work); the ties are given (YtpibeabokedpdaaGreatDoorTie.lean); close each card by the builder's one call (the guide's Derived/Test/ToyasCard.lean, 'card_holds'). Laid BY PROGRAM, IN A SANDBOX (cutbox-door.mjs). By AI agents, Wed Nov 11 2026. No macro, syntax, notation, axiom, sorry.
-/
import Derived.Test.YtpibeabokedpdaaGreatDoorRows
import GoSem.ClaimSeven
namespace Go.Proofs.YtpibeabokedpdaaGreatDoor
namespace Rows

/-- THE TIED CARD OF 'covenantlaw19.ListcmdNames'. -/
def listcmdNamesCard : Claim7 := { stood := { row := listcmdNamesRow, standIns := [], harness := (true, "7d335a2bf8622c08b50ed5125803d094869ba74d7abbf965d9b2fe428b9a8905"), looks := true }, kinds := [], alts := [], laidByText := true, laidKinds := [.data, .data, .data, .sentinel, .sentinel], laidTests := true, laidLooks := .later }
def ListcmdNamesCardSaid : Prop := Claim7.holds Tryz.pinned (.plain (OpenSpec.ofChange listcmdNamesSpec)) listcmdNamesCard

/-- THE SECOND FORM's CARD OF 'covenantlaw19.ListcmdNames'. -/
def listcmdNamesUptoCard : Claim7 := { stood := { row := listcmdNamesUptoRow, standIns := [], harness := (true, "7d335a2bf8622c08b50ed5125803d094869ba74d7abbf965d9b2fe428b9a8905"), looks := true }, kinds := [], alts := [], laidByText := true, laidKinds := [.data, .data, .data, .sentinel, .sentinel], laidTests := true, laidLooks := .later }
def ListcmdNamesUptoCardSaid : Prop := Claim7.holds Tryz.pinned (.plain (OpenSpec.upto listcmdNamesSpec)) listcmdNamesUptoCard
end Rows
end Go.Proofs.YtpibeabokedpdaaGreatDoor
