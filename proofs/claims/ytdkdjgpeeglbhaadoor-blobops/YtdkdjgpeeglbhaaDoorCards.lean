/-
  DERIVED. GIVEN WITH THE SEED: THE CARDS: each row of YtdkdjgpeeglbhaaDoorRows.lean that lists a variable, with what it lists TIED to the program's text (the seventh form; the later family's looks); each row that meets fmt, with fmt's text TOLD by the authors' own Lean function (tested against real Go, not proved from fmt's source: count such statements apart). THE CARD IS WHAT COUNTS. Prove the row's statement (the work); the ties are given (YtdkdjgpeeglbhaaDoorTie.lean); close each card by the builder's one call (the guide's Derived/Test/ToyasCard.lean, 'card_holds'). Laid BY PROGRAM, IN A SANDBOX (cutbox-door.mjs). By AI agents, Wed Nov 11 2026. No macro, syntax, notation, axiom, sorry.
-/
import Derived.Test.YtdkdjgpeeglbhaaDoorRows
import GoSem.ClaimSeven
namespace Go.Proofs.YtdkdjgpeeglbhaaDoor
namespace Rows

/-- THE TIED CARD OF 'covenantlaw08.BlobRanges'. -/
def blobRangesCard : Claim7 := { stood := { row := blobRangesRow, standIns := [], harness := (true, "1696425853e5b631dac0e53ff141cf51feecfd47c39ed55bbe5045161589c33e"), looks := true }, kinds := [], alts := [], laidByText := true, laidKinds := [.data, .data, .data, .sentinel, .sentinel], laidTests := true, laidLooks := .later }
def BlobRangesCardSaid : Prop := Claim7.holds Tryd.pinned (.plain (OpenSpec.ofChange blobRangesSpec)) blobRangesCard

/-- THE TIED CARD OF 'covenantlaw08.BlobSplices'. -/
def blobSplicesCard : Claim7 := { stood := { row := blobSplicesRow, standIns := [], harness := (true, "1696425853e5b631dac0e53ff141cf51feecfd47c39ed55bbe5045161589c33e"), looks := true }, kinds := [], alts := [], laidByText := true, laidKinds := [.data, .data, .data, .sentinel, .sentinel], laidTests := true, laidLooks := .later }
def BlobSplicesCardSaid : Prop := Claim7.holds Tryd.pinned (.plain (OpenSpec.ofChange blobSplicesSpec)) blobSplicesCard

/-- THE TIED CARD OF 'covenantlaw08.BlobBits'. -/
def blobBitsCard : Claim7 := { stood := { row := blobBitsRow, standIns := [], harness := (true, "1696425853e5b631dac0e53ff141cf51feecfd47c39ed55bbe5045161589c33e"), looks := true }, kinds := [], alts := [], laidByText := true, laidKinds := [.data, .data, .data, .sentinel, .sentinel], laidTests := true, laidLooks := .later }
def BlobBitsCardSaid : Prop := Claim7.holds Tryd.pinned (.plain (OpenSpec.ofChange blobBitsSpec)) blobBitsCard

/-- THE TIED CARD OF 'covenantlaw08.BlobCounts'. -/
def blobCountsCard : Claim7 := { stood := { row := blobCountsRow, standIns := [], harness := (true, "1696425853e5b631dac0e53ff141cf51feecfd47c39ed55bbe5045161589c33e"), looks := true }, kinds := [], alts := [], laidByText := true, laidKinds := [.data, .data, .data, .sentinel, .sentinel], laidTests := true, laidLooks := .later }
def BlobCountsCardSaid : Prop := Claim7.holds Tryd.pinned (.plain (OpenSpec.ofChange blobCountsSpec)) blobCountsCard

/-- THE TIED CARD OF 'covenantlaw08.BlobOps'. -/
def blobOpsCard : Claim7 := { stood := { row := blobOpsRow, standIns := [], harness := (true, "1696425853e5b631dac0e53ff141cf51feecfd47c39ed55bbe5045161589c33e"), looks := true }, kinds := [], alts := [], laidByText := true, laidKinds := [.data, .data, .data, .sentinel, .sentinel], laidTests := true, laidLooks := .later }
def BlobOpsCardSaid : Prop := Claim7.holds Tryd.pinned (.plain (OpenSpec.ofChange blobOpsSpec)) blobOpsCard

/-- THE TIED CARD OF 'covenantlaw08.BlobIncrs'. -/
def blobIncrsCard : Claim7 := { stood := { row := blobIncrsRow, standIns := [], harness := (true, "1696425853e5b631dac0e53ff141cf51feecfd47c39ed55bbe5045161589c33e"), looks := true }, kinds := [], alts := [], laidByText := true, laidKinds := [.data, .data, .data, .sentinel, .sentinel], laidTests := true, laidLooks := .later }
def BlobIncrsCardSaid : Prop := Claim7.holds Tryd.pinned (.plain (OpenSpec.ofChange blobIncrsSpec)) blobIncrsCard

/-- THE SECOND FORM's CARD OF 'covenantlaw08.BlobRanges'. -/
def blobRangesUptoCard : Claim7 := { stood := { row := blobRangesUptoRow, standIns := [], harness := (true, "1696425853e5b631dac0e53ff141cf51feecfd47c39ed55bbe5045161589c33e"), looks := true }, kinds := [], alts := [], laidByText := true, laidKinds := [.data, .data, .data, .sentinel, .sentinel], laidTests := true, laidLooks := .later }
def BlobRangesUptoCardSaid : Prop := Claim7.holds Tryd.pinned (.plain (OpenSpec.upto blobRangesSpec)) blobRangesUptoCard

/-- THE SECOND FORM's CARD OF 'covenantlaw08.BlobSplices'. -/
def blobSplicesUptoCard : Claim7 := { stood := { row := blobSplicesUptoRow, standIns := [], harness := (true, "1696425853e5b631dac0e53ff141cf51feecfd47c39ed55bbe5045161589c33e"), looks := true }, kinds := [], alts := [], laidByText := true, laidKinds := [.data, .data, .data, .sentinel, .sentinel], laidTests := true, laidLooks := .later }
def BlobSplicesUptoCardSaid : Prop := Claim7.holds Tryd.pinned (.plain (OpenSpec.upto blobSplicesSpec)) blobSplicesUptoCard

/-- THE SECOND FORM's CARD OF 'covenantlaw08.BlobBits'. -/
def blobBitsUptoCard : Claim7 := { stood := { row := blobBitsUptoRow, standIns := [], harness := (true, "1696425853e5b631dac0e53ff141cf51feecfd47c39ed55bbe5045161589c33e"), looks := true }, kinds := [], alts := [], laidByText := true, laidKinds := [.data, .data, .data, .sentinel, .sentinel], laidTests := true, laidLooks := .later }
def BlobBitsUptoCardSaid : Prop := Claim7.holds Tryd.pinned (.plain (OpenSpec.upto blobBitsSpec)) blobBitsUptoCard

/-- THE SECOND FORM's CARD OF 'covenantlaw08.BlobCounts'. -/
def blobCountsUptoCard : Claim7 := { stood := { row := blobCountsUptoRow, standIns := [], harness := (true, "1696425853e5b631dac0e53ff141cf51feecfd47c39ed55bbe5045161589c33e"), looks := true }, kinds := [], alts := [], laidByText := true, laidKinds := [.data, .data, .data, .sentinel, .sentinel], laidTests := true, laidLooks := .later }
def BlobCountsUptoCardSaid : Prop := Claim7.holds Tryd.pinned (.plain (OpenSpec.upto blobCountsSpec)) blobCountsUptoCard

/-- THE SECOND FORM's CARD OF 'covenantlaw08.BlobOps'. -/
def blobOpsUptoCard : Claim7 := { stood := { row := blobOpsUptoRow, standIns := [], harness := (true, "1696425853e5b631dac0e53ff141cf51feecfd47c39ed55bbe5045161589c33e"), looks := true }, kinds := [], alts := [], laidByText := true, laidKinds := [.data, .data, .data, .sentinel, .sentinel], laidTests := true, laidLooks := .later }
def BlobOpsUptoCardSaid : Prop := Claim7.holds Tryd.pinned (.plain (OpenSpec.upto blobOpsSpec)) blobOpsUptoCard

/-- THE SECOND FORM's CARD OF 'covenantlaw08.BlobIncrs'. -/
def blobIncrsUptoCard : Claim7 := { stood := { row := blobIncrsUptoRow, standIns := [], harness := (true, "1696425853e5b631dac0e53ff141cf51feecfd47c39ed55bbe5045161589c33e"), looks := true }, kinds := [], alts := [], laidByText := true, laidKinds := [.data, .data, .data, .sentinel, .sentinel], laidTests := true, laidLooks := .later }
def BlobIncrsUptoCardSaid : Prop := Claim7.holds Tryd.pinned (.plain (OpenSpec.upto blobIncrsSpec)) blobIncrsUptoCard
end Rows
end Go.Proofs.YtdkdjgpeeglbhaaDoor
