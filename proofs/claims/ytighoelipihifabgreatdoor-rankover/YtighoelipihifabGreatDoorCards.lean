/-
  DERIVED. GIVEN WITH THE SEED: THE CARDS: each row of YtighoelipihifabGreatDoorRows.lean that lists a variable, with what it lists TIED to the program's text (the seventh form; the later family's looks); each row that meets fmt, with fmt's text TOLD by the authors' own Lean function (tested against real Go, not proved from fmt's source: count such statements apart). THE CARD IS WHAT COUNTS. Prove the row's statement (the work); the ties are given (YtighoelipihifabGreatDoorTie.lean); close each card by the builder's one call (the guide's Derived/Test/ToyasCard.lean, 'card_holds'). Laid BY PROGRAM, IN A SANDBOX (cutbox-door.mjs). By AI agents, Wed Nov 11 2026. No macro, syntax, notation, axiom, sorry.
-/
import Derived.Test.YtighoelipihifabGreatDoorRows
import GoSem.ClaimSeven
namespace Go.Proofs.YtighoelipihifabGreatDoor
namespace Rows

/-- THE TIED CARD OF 'covenantlaw12.RankPops'. -/
def rankPopsCard : Claim7 := { stood := { row := rankPopsRow, standIns := [], harness := (true, "06e30d9a1409f9575fc48db87a5508a6ea593e03ede0a5e94b3822e66cca0cb1"), looks := true }, kinds := [], alts := [], laidByText := true, laidKinds := [.data, .data, .data, .sentinel, .sentinel], laidTests := true, laidLooks := .later }
def RankPopsCardSaid : Prop := Claim7.holds Tryz.pinned (.plain (OpenSpec.ofChange rankPopsSpec)) rankPopsCard

/-- THE TIED CARD OF 'covenantlaw12.RankOver'. -/
def rankOverCard : Claim7 := { stood := { row := rankOverRow, standIns := [], harness := (true, "06e30d9a1409f9575fc48db87a5508a6ea593e03ede0a5e94b3822e66cca0cb1"), looks := true }, kinds := [], alts := [], laidByText := true, laidKinds := [.data, .data, .data, .sentinel, .sentinel], laidTests := true, laidLooks := .later }
def RankOverCardSaid : Prop := Claim7.holds Tryz.pinned (.plain (OpenSpec.ofChange rankOverSpec)) rankOverCard

/-- THE SECOND FORM's CARD OF 'covenantlaw12.RankPops'. -/
def rankPopsUptoCard : Claim7 := { stood := { row := rankPopsUptoRow, standIns := [], harness := (true, "06e30d9a1409f9575fc48db87a5508a6ea593e03ede0a5e94b3822e66cca0cb1"), looks := true }, kinds := [], alts := [], laidByText := true, laidKinds := [.data, .data, .data, .sentinel, .sentinel], laidTests := true, laidLooks := .later }
def RankPopsUptoCardSaid : Prop := Claim7.holds Tryz.pinned (.plain (OpenSpec.upto rankPopsSpec)) rankPopsUptoCard

/-- THE SECOND FORM's CARD OF 'covenantlaw12.RankOver'. -/
def rankOverUptoCard : Claim7 := { stood := { row := rankOverUptoRow, standIns := [], harness := (true, "06e30d9a1409f9575fc48db87a5508a6ea593e03ede0a5e94b3822e66cca0cb1"), looks := true }, kinds := [], alts := [], laidByText := true, laidKinds := [.data, .data, .data, .sentinel, .sentinel], laidTests := true, laidLooks := .later }
def RankOverUptoCardSaid : Prop := Claim7.holds Tryz.pinned (.plain (OpenSpec.upto rankOverSpec)) rankOverUptoCard
end Rows
end Go.Proofs.YtighoelipihifabGreatDoor
