/-
  DERIVED. GIVEN WITH THE SEED: THE CARDS: each row of YtdggpldmkeoeeaaDoorRows.lean that lists a variable, with what it lists TIED to the program's text (the seventh form; the later family's looks); each row that meets fmt, with fmt's text TOLD by the authors' own Lean function (tested against real Go, not proved from fmt's source: count such statements apart). THE CARD IS WHAT COUNTS. Prove the row's statement (the work); the ties are given (YtdggpldmkeoeeaaDoorTie.lean); close each card by the builder's one call (the guide's Derived/Test/ToyasCard.lean, 'card_holds'). Laid BY PROGRAM, IN A SANDBOX (cutbox-door.mjs). By AI agents, Wed Nov 11 2026. No macro, syntax, notation, axiom, sorry.
-/
import Derived.Test.YtdggpldmkeoeeaaDoorRows
import GoSem.ClaimSeven
namespace Go.Proofs.YtdggpldmkeoeeaaDoor
namespace Rows

/-- THE TIED CARD OF 'covenantlaw03.RespEncodes'. -/
def respEncodesCard : Claim7 := { stood := { row := respEncodesRow, standIns := [], harness := (true, "50b1d9d784d7579752981e4fa540adbb3f71db48508f37a1eff985ffb5bec96f"), looks := true }, kinds := [], alts := [], laidByText := true, laidKinds := [.data, .data, .data, .sentinel, .sentinel], laidTests := true, laidLooks := .later }
def RespEncodesCardSaid : Prop := Claim7.holds Tryd.pinned (.plain (OpenSpec.ofChange respEncodesSpec)) respEncodesCard

/-- THE TIED CARD OF 'covenantlaw03.RespDecodes'. -/
def respDecodesCard : Claim7 := { stood := { row := respDecodesRow, standIns := [], harness := (true, "50b1d9d784d7579752981e4fa540adbb3f71db48508f37a1eff985ffb5bec96f"), looks := true }, kinds := [], alts := [], laidByText := true, laidKinds := [.data, .data, .data, .sentinel, .sentinel], laidTests := true, laidLooks := .later }
def RespDecodesCardSaid : Prop := Claim7.holds Tryd.pinned (.plain (OpenSpec.ofChange respDecodesSpec)) respDecodesCard

/-- THE TIED CARD OF 'covenantlaw03.RespFeeds'. -/
def respFeedsCard : Claim7 := { stood := { row := respFeedsRow, standIns := [], harness := (true, "50b1d9d784d7579752981e4fa540adbb3f71db48508f37a1eff985ffb5bec96f"), looks := true }, kinds := [], alts := [], laidByText := true, laidKinds := [.data, .data, .data, .sentinel, .sentinel], laidTests := true, laidLooks := .later }
def RespFeedsCardSaid : Prop := Claim7.holds Tryd.pinned (.plain (OpenSpec.ofChange respFeedsSpec)) respFeedsCard

/-- THE TIED CARD OF 'covenantlaw03.RespShows'. -/
def respShowsCard : Claim7 := { stood := { row := respShowsRow, standIns := [], harness := (true, "50b1d9d784d7579752981e4fa540adbb3f71db48508f37a1eff985ffb5bec96f"), looks := true }, kinds := [], alts := [], laidByText := true, laidKinds := [.data, .data, .data], laidTests := true, laidLooks := .later }
def RespShowsCardSaid : Prop := Claim7.holds Tryd.pinned (.plain (OpenSpec.ofChange respShowsSpec)) respShowsCard

/-- THE TIED CARD OF 'covenantlaw03.RespBack'. -/
def respBackCard : Claim7 := { stood := { row := respBackRow, standIns := [], harness := (true, "50b1d9d784d7579752981e4fa540adbb3f71db48508f37a1eff985ffb5bec96f"), looks := true }, kinds := [], alts := [], laidByText := true, laidKinds := [.data, .data, .data, .sentinel, .sentinel], laidTests := true, laidLooks := .later }
def RespBackCardSaid : Prop := Claim7.holds Tryd.pinned (.plain (OpenSpec.ofChange respBackSpec)) respBackCard

/-- THE TIED CARD OF 'covenantlaw03.RespCuts'. -/
def respCutsCard : Claim7 := { stood := { row := respCutsRow, standIns := [], harness := (true, "50b1d9d784d7579752981e4fa540adbb3f71db48508f37a1eff985ffb5bec96f"), looks := true }, kinds := [], alts := [], laidByText := true, laidKinds := [.data, .data, .data, .sentinel, .sentinel], laidTests := true, laidLooks := .later }
def RespCutsCardSaid : Prop := Claim7.holds Tryd.pinned (.plain (OpenSpec.ofChange respCutsSpec)) respCutsCard

/-- THE SECOND FORM's CARD OF 'covenantlaw03.RespEncodes'. -/
def respEncodesUptoCard : Claim7 := { stood := { row := respEncodesUptoRow, standIns := [], harness := (true, "50b1d9d784d7579752981e4fa540adbb3f71db48508f37a1eff985ffb5bec96f"), looks := true }, kinds := [], alts := [], laidByText := true, laidKinds := [.data, .data, .data, .sentinel, .sentinel], laidTests := true, laidLooks := .later }
def RespEncodesUptoCardSaid : Prop := Claim7.holds Tryd.pinned (.plain (OpenSpec.upto respEncodesSpec)) respEncodesUptoCard

/-- THE SECOND FORM's CARD OF 'covenantlaw03.RespDecodes'. -/
def respDecodesUptoCard : Claim7 := { stood := { row := respDecodesUptoRow, standIns := [], harness := (true, "50b1d9d784d7579752981e4fa540adbb3f71db48508f37a1eff985ffb5bec96f"), looks := true }, kinds := [], alts := [], laidByText := true, laidKinds := [.data, .data, .data, .sentinel, .sentinel], laidTests := true, laidLooks := .later }
def RespDecodesUptoCardSaid : Prop := Claim7.holds Tryd.pinned (.plain (OpenSpec.upto respDecodesSpec)) respDecodesUptoCard

/-- THE SECOND FORM's CARD OF 'covenantlaw03.RespFeeds'. -/
def respFeedsUptoCard : Claim7 := { stood := { row := respFeedsUptoRow, standIns := [], harness := (true, "50b1d9d784d7579752981e4fa540adbb3f71db48508f37a1eff985ffb5bec96f"), looks := true }, kinds := [], alts := [], laidByText := true, laidKinds := [.data, .data, .data, .sentinel, .sentinel], laidTests := true, laidLooks := .later }
def RespFeedsUptoCardSaid : Prop := Claim7.holds Tryd.pinned (.plain (OpenSpec.upto respFeedsSpec)) respFeedsUptoCard

/-- THE SECOND FORM's CARD OF 'covenantlaw03.RespShows'. -/
def respShowsUptoCard : Claim7 := { stood := { row := respShowsUptoRow, standIns := [], harness := (true, "50b1d9d784d7579752981e4fa540adbb3f71db48508f37a1eff985ffb5bec96f"), looks := true }, kinds := [], alts := [], laidByText := true, laidKinds := [.data, .data, .data], laidTests := true, laidLooks := .later }
def RespShowsUptoCardSaid : Prop := Claim7.holds Tryd.pinned (.plain (OpenSpec.upto respShowsSpec)) respShowsUptoCard

/-- THE SECOND FORM's CARD OF 'covenantlaw03.RespBack'. -/
def respBackUptoCard : Claim7 := { stood := { row := respBackUptoRow, standIns := [], harness := (true, "50b1d9d784d7579752981e4fa540adbb3f71db48508f37a1eff985ffb5bec96f"), looks := true }, kinds := [], alts := [], laidByText := true, laidKinds := [.data, .data, .data, .sentinel, .sentinel], laidTests := true, laidLooks := .later }
def RespBackUptoCardSaid : Prop := Claim7.holds Tryd.pinned (.plain (OpenSpec.upto respBackSpec)) respBackUptoCard

/-- THE SECOND FORM's CARD OF 'covenantlaw03.RespCuts'. -/
def respCutsUptoCard : Claim7 := { stood := { row := respCutsUptoRow, standIns := [], harness := (true, "50b1d9d784d7579752981e4fa540adbb3f71db48508f37a1eff985ffb5bec96f"), looks := true }, kinds := [], alts := [], laidByText := true, laidKinds := [.data, .data, .data, .sentinel, .sentinel], laidTests := true, laidLooks := .later }
def RespCutsUptoCardSaid : Prop := Claim7.holds Tryd.pinned (.plain (OpenSpec.upto respCutsSpec)) respCutsUptoCard
end Rows
end Go.Proofs.YtdggpldmkeoeeaaDoor
