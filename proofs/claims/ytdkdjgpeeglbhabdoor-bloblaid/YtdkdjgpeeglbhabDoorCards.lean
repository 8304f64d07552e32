/-
  DERIVED. GIVEN WITH THE SEED: THE CARDS: each row of YtdkdjgpeeglbhabDoorRows.lean that lists a variable, with what it lists TIED to the program's text (the seventh form; the later family's looks); each row that meets fmt, with fmt's text TOLD by the authors' own Lean function (tested against real Go, not proved from fmt's source: count such statements apart). THE CARD IS WHAT COUNTS. Prove the row's statement (the work); the ties are given (YtdkdjgpeeglbhabDoorTie.lean); close each card by the builder's one call (the guide's Derived/Test/ToyasCard.lean, 'card_holds'). Laid BY PROGRAM, IN A SANDBOX (cutbox-door.mjs). By AI agents, Wed Nov 11 2026. No macro, syntax, notation, axiom, sorry.
-/
import Derived.Test.YtdkdjgpeeglbhabDoorRows
import GoSem.ClaimSeven
namespace Go.Proofs.YtdkdjgpeeglbhabDoor
namespace Rows

/-- THE TIED CARD OF 'covenantlaw08.BlobSet'. -/
def blobSetCard : Claim7 := { stood := { row := blobSetRow, standIns := [], harness := (true, "d6894121872dd51f7db2366b556cfea775153c45a16a9743e8b25e4cdc43ac67"), looks := true }, kinds := [], alts := [], laidByText := true, laidKinds := [.data, .data, .data, .sentinel, .sentinel], laidTests := true, laidLooks := .later }
def BlobSetCardSaid : Prop := Claim7.holds Tryd.pinned (.plain (OpenSpec.ofChange blobSetSpec)) blobSetCard

/-- THE TIED CARD OF 'covenantlaw08.BlobLaid'. -/
def blobLaidCard : Claim7 := { stood := { row := blobLaidRow, standIns := [], harness := (true, "d6894121872dd51f7db2366b556cfea775153c45a16a9743e8b25e4cdc43ac67"), looks := true }, kinds := [], alts := [], laidByText := true, laidKinds := [.data, .data, .data, .sentinel, .sentinel], laidTests := true, laidLooks := .later }
def BlobLaidCardSaid : Prop := Claim7.holds Tryd.pinned (.plain (OpenSpec.ofChange blobLaidSpec)) blobLaidCard

/-- THE TIED CARD OF 'covenantlaw08.BlobSums'. -/
def blobSumsCard : Claim7 := { stood := { row := blobSumsRow, standIns := [], harness := (true, "d6894121872dd51f7db2366b556cfea775153c45a16a9743e8b25e4cdc43ac67"), looks := true }, kinds := [], alts := [], laidByText := true, laidKinds := [.data, .data, .data, .sentinel, .sentinel], laidTests := true, laidLooks := .later }
def BlobSumsCardSaid : Prop := Claim7.holds Tryd.pinned (.plain (OpenSpec.ofChange blobSumsSpec)) blobSumsCard

/-- THE SECOND FORM's CARD OF 'covenantlaw08.BlobSet'. -/
def blobSetUptoCard : Claim7 := { stood := { row := blobSetUptoRow, standIns := [], harness := (true, "d6894121872dd51f7db2366b556cfea775153c45a16a9743e8b25e4cdc43ac67"), looks := true }, kinds := [], alts := [], laidByText := true, laidKinds := [.data, .data, .data, .sentinel, .sentinel], laidTests := true, laidLooks := .later }
def BlobSetUptoCardSaid : Prop := Claim7.holds Tryd.pinned (.plain (OpenSpec.upto blobSetSpec)) blobSetUptoCard

/-- THE SECOND FORM's CARD OF 'covenantlaw08.BlobLaid'. -/
def blobLaidUptoCard : Claim7 := { stood := { row := blobLaidUptoRow, standIns := [], harness := (true, "d6894121872dd51f7db2366b556cfea775153c45a16a9743e8b25e4cdc43ac67"), looks := true }, kinds := [], alts := [], laidByText := true, laidKinds := [.data, .data, .data, .sentinel, .sentinel], laidTests := true, laidLooks := .later }
def BlobLaidUptoCardSaid : Prop := Claim7.holds Tryd.pinned (.plain (OpenSpec.upto blobLaidSpec)) blobLaidUptoCard

/-- THE SECOND FORM's CARD OF 'covenantlaw08.BlobSums'. -/
def blobSumsUptoCard : Claim7 := { stood := { row := blobSumsUptoRow, standIns := [], harness := (true, "d6894121872dd51f7db2366b556cfea775153c45a16a9743e8b25e4cdc43ac67"), looks := true }, kinds := [], alts := [], laidByText := true, laidKinds := [.data, .data, .data, .sentinel, .sentinel], laidTests := true, laidLooks := .later }
def BlobSumsUptoCardSaid : Prop := Claim7.holds Tryd.pinned (.plain (OpenSpec.upto blobSumsSpec)) blobSumsUptoCard
end Rows
end Go.Proofs.YtdkdjgpeeglbhabDoor
