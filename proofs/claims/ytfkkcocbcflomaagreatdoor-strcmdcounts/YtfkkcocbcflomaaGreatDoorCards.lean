/-
  DERIVED. GIVEN WITH THE SEED: THE CARDS: each row of YtfkkcocbcflomaaGreatDoorRows.lean that lists a variable, with what it lists TIED to the program's text (the seventh form; the later family's looks); each row that meets fmt, with fmt's text TOLD by the authors' own Lean function (tested against real Go, not proved from fmt's source: count such statements apart). THE CARD IS WHAT COUNTS. Prove the row's statement (the work); the ties are given (YtfkkcocbcflomaaGreatDoorTie.lean); close each card by the builder's one call (the guide's Derived/Test/ToyasCard.lean, 'card_holds'). Laid BY PROGRAM, IN A SANDBOX (cutbox-door.mjs). By AI agents, Wed Nov 11 2026. No macro, syntax, notation, axiom, sorry.
-/
import Derived.Test.YtfkkcocbcflomaaGreatDoorRows
import GoSem.ClaimSeven
namespace Go.Proofs.YtfkkcocbcflomaaGreatDoor
namespace Rows

/-- THE TIED CARD OF 'covenantlaw17.StrcmdRuns'. -/
def strcmdRunsCard : Claim7 := { stood := { row := strcmdRunsRow, standIns := [], harness := (true, "441564d5c91b8afa176092ac807ccf84791a43bd5f734a8e49a5851dccb4f078"), looks := true }, kinds := [], alts := [], laidByText := true, laidKinds := [.data, .data, .data, .sentinel, .sentinel], laidTests := true, laidLooks := .later }
def StrcmdRunsCardSaid : Prop := Claim7.holds Tryz.pinned (.plain (OpenSpec.ofChange strcmdRunsSpec)) strcmdRunsCard

/-- THE TIED CARD OF 'covenantlaw17.StrcmdNames'. -/
def strcmdNamesCard : Claim7 := { stood := { row := strcmdNamesRow, standIns := [], harness := (true, "441564d5c91b8afa176092ac807ccf84791a43bd5f734a8e49a5851dccb4f078"), looks := true }, kinds := [], alts := [], laidByText := true, laidKinds := [.data, .data, .data, .sentinel, .sentinel], laidTests := true, laidLooks := .later }
def StrcmdNamesCardSaid : Prop := Claim7.holds Tryz.pinned (.plain (OpenSpec.ofChange strcmdNamesSpec)) strcmdNamesCard

/-- THE TIED CARD OF 'covenantlaw17.StrcmdSets'. -/
def strcmdSetsCard : Claim7 := { stood := { row := strcmdSetsRow, standIns := [], harness := (true, "441564d5c91b8afa176092ac807ccf84791a43bd5f734a8e49a5851dccb4f078"), looks := true }, kinds := [], alts := [], laidByText := true, laidKinds := [.data, .data, .data, .sentinel, .sentinel], laidTests := true, laidLooks := .later }
def StrcmdSetsCardSaid : Prop := Claim7.holds Tryz.pinned (.plain (OpenSpec.ofChange strcmdSetsSpec)) strcmdSetsCard

/-- THE TIED CARD OF 'covenantlaw17.StrcmdCounts'. -/
def strcmdCountsCard : Claim7 := { stood := { row := strcmdCountsRow, standIns := [], harness := (true, "441564d5c91b8afa176092ac807ccf84791a43bd5f734a8e49a5851dccb4f078"), looks := true }, kinds := [], alts := [], laidByText := true, laidKinds := [.data, .data, .data, .sentinel, .sentinel], laidTests := true, laidLooks := .later }
def StrcmdCountsCardSaid : Prop := Claim7.holds Tryz.pinned (.plain (OpenSpec.ofChange strcmdCountsSpec)) strcmdCountsCard

/-- THE TIED CARD OF 'covenantlaw17.StrcmdMany'. -/
def strcmdManyCard : Claim7 := { stood := { row := strcmdManyRow, standIns := [], harness := (true, "441564d5c91b8afa176092ac807ccf84791a43bd5f734a8e49a5851dccb4f078"), looks := true }, kinds := [], alts := [], laidByText := true, laidKinds := [.data, .data, .data, .sentinel, .sentinel], laidTests := true, laidLooks := .later }
def StrcmdManyCardSaid : Prop := Claim7.holds Tryz.pinned (.plain (OpenSpec.ofChange strcmdManySpec)) strcmdManyCard

/-- THE TIED CARD OF 'covenantlaw17.StrcmdBits'. -/
def strcmdBitsCard : Claim7 := { stood := { row := strcmdBitsRow, standIns := [], harness := (true, "441564d5c91b8afa176092ac807ccf84791a43bd5f734a8e49a5851dccb4f078"), looks := true }, kinds := [], alts := [], laidByText := true, laidKinds := [.data, .data, .data, .sentinel, .sentinel], laidTests := true, laidLooks := .later }
def StrcmdBitsCardSaid : Prop := Claim7.holds Tryz.pinned (.plain (OpenSpec.ofChange strcmdBitsSpec)) strcmdBitsCard

/-- THE SECOND FORM's CARD OF 'covenantlaw17.StrcmdRuns'. -/
def strcmdRunsUptoCard : Claim7 := { stood := { row := strcmdRunsUptoRow, standIns := [], harness := (true, "441564d5c91b8afa176092ac807ccf84791a43bd5f734a8e49a5851dccb4f078"), looks := true }, kinds := [], alts := [], laidByText := true, laidKinds := [.data, .data, .data, .sentinel, .sentinel], laidTests := true, laidLooks := .later }
def StrcmdRunsUptoCardSaid : Prop := Claim7.holds Tryz.pinned (.plain (OpenSpec.upto strcmdRunsSpec)) strcmdRunsUptoCard

/-- THE SECOND FORM's CARD OF 'covenantlaw17.StrcmdNames'. -/
def strcmdNamesUptoCard : Claim7 := { stood := { row := strcmdNamesUptoRow, standIns := [], harness := (true, "441564d5c91b8afa176092ac807ccf84791a43bd5f734a8e49a5851dccb4f078"), looks := true }, kinds := [], alts := [], laidByText := true, laidKinds := [.data, .data, .data, .sentinel, .sentinel], laidTests := true, laidLooks := .later }
def StrcmdNamesUptoCardSaid : Prop := Claim7.holds Tryz.pinned (.plain (OpenSpec.upto strcmdNamesSpec)) strcmdNamesUptoCard

/-- THE SECOND FORM's CARD OF 'covenantlaw17.StrcmdSets'. -/
def strcmdSetsUptoCard : Claim7 := { stood := { row := strcmdSetsUptoRow, standIns := [], harness := (true, "441564d5c91b8afa176092ac807ccf84791a43bd5f734a8e49a5851dccb4f078"), looks := true }, kinds := [], alts := [], laidByText := true, laidKinds := [.data, .data, .data, .sentinel, .sentinel], laidTests := true, laidLooks := .later }
def StrcmdSetsUptoCardSaid : Prop := Claim7.holds Tryz.pinned (.plain (OpenSpec.upto strcmdSetsSpec)) strcmdSetsUptoCard

/-- THE SECOND FORM's CARD OF 'covenantlaw17.StrcmdCounts'. -/
def strcmdCountsUptoCard : Claim7 := { stood := { row := strcmdCountsUptoRow, standIns := [], harness := (true, "441564d5c91b8afa176092ac807ccf84791a43bd5f734a8e49a5851dccb4f078"), looks := true }, kinds := [], alts := [], laidByText := true, laidKinds := [.data, .data, .data, .sentinel, .sentinel], laidTests := true, laidLooks := .later }
def StrcmdCountsUptoCardSaid : Prop := Claim7.holds Tryz.pinned (.plain (OpenSpec.upto strcmdCountsSpec)) strcmdCountsUptoCard

/-- THE SECOND FORM's CARD OF 'covenantlaw17.StrcmdMany'. -/
def strcmdManyUptoCard : Claim7 := { stood := { row := strcmdManyUptoRow, standIns := [], harness := (true, "441564d5c91b8afa176092ac807ccf84791a43bd5f734a8e49a5851dccb4f078"), looks := true }, kinds := [], alts := [], laidByText := true, laidKinds := [.data, .data, .data, .sentinel, .sentinel], laidTests := true, laidLooks := .later }
def StrcmdManyUptoCardSaid : Prop := Claim7.holds Tryz.pinned (.plain (OpenSpec.upto strcmdManySpec)) strcmdManyUptoCard

/-- THE SECOND FORM's CARD OF 'covenantlaw17.StrcmdBits'. -/
def strcmdBitsUptoCard : Claim7 := { stood := { row := strcmdBitsUptoRow, standIns := [], harness := (true, "441564d5c91b8afa176092ac807ccf84791a43bd5f734a8e49a5851dccb4f078"), looks := true }, kinds := [], alts := [], laidByText := true, laidKinds := [.data, .data, .data, .sentinel, .sentinel], laidTests := true, laidLooks := .later }
def StrcmdBitsUptoCardSaid : Prop := Claim7.holds Tryz.pinned (.plain (OpenSpec.upto strcmdBitsSpec)) strcmdBitsUptoCard
end Rows
end Go.Proofs.YtfkkcocbcflomaaGreatDoor
