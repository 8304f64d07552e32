/-
  DERIVED. GIVEN WITH THE SEED: THE CARDS: each row of YtiofnocmibjepaaGreatDoorRows.lean that lists a variable, with what it lists TIED to the program's text (the seventh form; the later family's looks); each row that meets fmt, with fmt's text TOLD by the authors' own Lean function (tested against real Go, not proved from fmt's source: count such statements apart). THE CARD IS WHAT COUNTS. Prove the row's statement (the work); the ties are given (YtiofnocmibjepaaGreatDoorTie.lean); close each card by the builder's one call (the guide's Derived/Test/ToyasCard.lean, 'card_holds'). Laid BY PROGRAM, IN A SANDBOX (cutbox-door.mjs). By AI agents, Wed Nov 11 2026. No macro, syntax, notation, axiom, sorry.
-/
import Derived.Test.YtiofnocmibjepaaGreatDoorRows
import GoSem.ClaimSeven
namespace Go.Proofs.YtiofnocmibjepaaGreatDoor
namespace Rows

/-- THE TIED CARD OF 'covenantlaw17.StrcmdNames'. -/
def strcmdNamesCard : Claim7 := { stood := { row := strcmdNamesRow, standIns := [], harness := (true, "5fd2bbfa7eb5ebdfbf9acad5643eacbb43342fd914d66ebbf3e296b4bb6dd05e"), looks := true }, kinds := [], alts := [], laidByText := true, laidKinds := [.data, .data, .data, .sentinel, .sentinel], laidTests := true, laidLooks := .later }
def StrcmdNamesCardSaid : Prop := Claim7.holds Tryz.pinned (.plain (OpenSpec.ofChange strcmdNamesSpec)) strcmdNamesCard

/-- THE SECOND FORM's CARD OF 'covenantlaw17.StrcmdNames'. -/
def strcmdNamesUptoCard : Claim7 := { stood := { row := strcmdNamesUptoRow, standIns := [], harness := (true, "5fd2bbfa7eb5ebdfbf9acad5643eacbb43342fd914d66ebbf3e296b4bb6dd05e"), looks := true }, kinds := [], alts := [], laidByText := true, laidKinds := [.data, .data, .data, .sentinel, .sentinel], laidTests := true, laidLooks := .later }
def StrcmdNamesUptoCardSaid : Prop := Claim7.holds Tryz.pinned (.plain (OpenSpec.upto strcmdNamesSpec)) strcmdNamesUptoCard
end Rows
end Go.Proofs.YtiofnocmibjepaaGreatDoor
