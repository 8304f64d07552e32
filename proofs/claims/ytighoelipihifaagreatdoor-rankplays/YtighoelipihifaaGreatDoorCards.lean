/-
  DERIVED. GIVEN WITH THE SEED: THE CARDS: each row of YtighoelipihifaaGreatDoorRows.lean that lists a variable, with what it lists TIED to the program's text (the seventh form; the later family's looks); each row that meets fmt, with fmt's text TOLD by the authors' own Lean function (tested against real Go, not proved from fmt's source: count such statements apart). THE CARD IS WHAT COUNTS. Prove the row's statement (the work); the ties are given (YtighoelipihifaaGreatDoorTie.lean); close each card by the builder's one call (the guide's Derived/Test/ToyasCard.lean, 'card_holds'). Laid BY PROGRAM, IN A SANDBOX (cutbox-door.mjs). By AI agents, Wed Nov 11 2026. No macro, syntax, notation, axiom, sorry.
-/
import Derived.Test.YtighoelipihifaaGreatDoorRows
import GoSem.ClaimSeven
namespace Go.Proofs.YtighoelipihifaaGreatDoor
namespace Rows

/-- THE TIED CARD OF 'covenantlaw12.RankOf'. -/
def rankOfCard : Claim7 := { stood := { row := rankOfRow, standIns := [], harness := (true, "17df1223c99b35bc99216aa8f406286731cbadc0c3059bce2852a457d907b2a2"), looks := true }, kinds := [], alts := [], laidByText := true, laidKinds := [.data, .data, .data, .sentinel, .sentinel], laidTests := true, laidLooks := .later }
def RankOfCardSaid : Prop := Claim7.holds Tryz.pinned (.plain (OpenSpec.ofChange rankOfSpec)) rankOfCard

/-- THE TIED CARD OF 'covenantlaw12.RankPlays'. -/
def rankPlaysCard : Claim7 := { stood := { row := rankPlaysRow, standIns := [], harness := (true, "17df1223c99b35bc99216aa8f406286731cbadc0c3059bce2852a457d907b2a2"), looks := true }, kinds := [], alts := [], laidByText := true, laidKinds := [.data, .data, .data, .sentinel, .sentinel], laidTests := true, laidLooks := .later }
def RankPlaysCardSaid : Prop := Claim7.holds Tryz.pinned (.plain (OpenSpec.ofChange rankPlaysSpec)) rankPlaysCard

/-- THE TIED CARD OF 'covenantlaw12.RankPlaces'. -/
def rankPlacesCard : Claim7 := { stood := { row := rankPlacesRow, standIns := [], harness := (true, "17df1223c99b35bc99216aa8f406286731cbadc0c3059bce2852a457d907b2a2"), looks := true }, kinds := [], alts := [], laidByText := true, laidKinds := [.data, .data, .data, .sentinel, .sentinel], laidTests := true, laidLooks := .later }
def RankPlacesCardSaid : Prop := Claim7.holds Tryz.pinned (.plain (OpenSpec.ofChange rankPlacesSpec)) rankPlacesCard

/-- THE TIED CARD OF 'covenantlaw12.RankParts'. -/
def rankPartsCard : Claim7 := { stood := { row := rankPartsRow, standIns := [], harness := (true, "17df1223c99b35bc99216aa8f406286731cbadc0c3059bce2852a457d907b2a2"), looks := true }, kinds := [], alts := [], laidByText := true, laidKinds := [.data, .data, .data, .sentinel, .sentinel], laidTests := true, laidLooks := .later }
def RankPartsCardSaid : Prop := Claim7.holds Tryz.pinned (.plain (OpenSpec.ofChange rankPartsSpec)) rankPartsCard

/-- THE SECOND FORM's CARD OF 'covenantlaw12.RankOf'. -/
def rankOfUptoCard : Claim7 := { stood := { row := rankOfUptoRow, standIns := [], harness := (true, "17df1223c99b35bc99216aa8f406286731cbadc0c3059bce2852a457d907b2a2"), looks := true }, kinds := [], alts := [], laidByText := true, laidKinds := [.data, .data, .data, .sentinel, .sentinel], laidTests := true, laidLooks := .later }
def RankOfUptoCardSaid : Prop := Claim7.holds Tryz.pinned (.plain (OpenSpec.upto rankOfSpec)) rankOfUptoCard

/-- THE SECOND FORM's CARD OF 'covenantlaw12.RankPlays'. -/
def rankPlaysUptoCard : Claim7 := { stood := { row := rankPlaysUptoRow, standIns := [], harness := (true, "17df1223c99b35bc99216aa8f406286731cbadc0c3059bce2852a457d907b2a2"), looks := true }, kinds := [], alts := [], laidByText := true, laidKinds := [.data, .data, .data, .sentinel, .sentinel], laidTests := true, laidLooks := .later }
def RankPlaysUptoCardSaid : Prop := Claim7.holds Tryz.pinned (.plain (OpenSpec.upto rankPlaysSpec)) rankPlaysUptoCard

/-- THE SECOND FORM's CARD OF 'covenantlaw12.RankPlaces'. -/
def rankPlacesUptoCard : Claim7 := { stood := { row := rankPlacesUptoRow, standIns := [], harness := (true, "17df1223c99b35bc99216aa8f406286731cbadc0c3059bce2852a457d907b2a2"), looks := true }, kinds := [], alts := [], laidByText := true, laidKinds := [.data, .data, .data, .sentinel, .sentinel], laidTests := true, laidLooks := .later }
def RankPlacesUptoCardSaid : Prop := Claim7.holds Tryz.pinned (.plain (OpenSpec.upto rankPlacesSpec)) rankPlacesUptoCard

/-- THE SECOND FORM's CARD OF 'covenantlaw12.RankParts'. -/
def rankPartsUptoCard : Claim7 := { stood := { row := rankPartsUptoRow, standIns := [], harness := (true, "17df1223c99b35bc99216aa8f406286731cbadc0c3059bce2852a457d907b2a2"), looks := true }, kinds := [], alts := [], laidByText := true, laidKinds := [.data, .data, .data, .sentinel, .sentinel], laidTests := true, laidLooks := .later }
def RankPartsUptoCardSaid : Prop := Claim7.holds Tryz.pinned (.plain (OpenSpec.upto rankPartsSpec)) rankPartsUptoCard
end Rows
end Go.Proofs.YtighoelipihifaaGreatDoor
