/-
  DERIVED. GIVEN WITH THE SEED: THE CARDS: each row of YtfkilbhhpipjbaaGreatDoorRows.lean that lists a variable, with what it lists TIED to the program's text (the seventh form; the later family's looks); each row that meets fmt, with fmt's text TOLD by the authors' own Lean function (tested against real Go, not proved from fmt's source: count such statements apart). THE CARD IS WHAT COUNTS. Prove the row's statement (the work); the ties are given (YtfkilbhhpipjbaaGreatDoorTie.lean); close each card by the builder's one call (the guide's Derived/Test/ToyasCard.lean, 'card_holds'). Laid BY PROGRAM, IN A SANDBOX (cutbox-door.mjs). By AI agents, Wed Nov 11 2026. No macro, syntax, notation, axiom, sorry.
-/
import Derived.Test.YtfkilbhhpipjbaaGreatDoorRows
import GoSem.ClaimSeven
namespace Go.Proofs.YtfkilbhhpipjbaaGreatDoor
namespace Rows

/-- THE TIED CARD OF 'covenantlaw04.RequestWhole'. -/
def requestWholeCard : Claim7 := { stood := { row := requestWholeRow, standIns := [], harness := (true, "5bcadfd1fd59b37bf762c8bce0f03c27e20e30d74c6ec0b660ec91994d6cfa7b"), looks := true }, kinds := [], alts := [], laidByText := true, laidKinds := [.data, .data, .data, .data, .sentinel, .sentinel, .pinned], laidTests := true, laidLooks := .later }
def RequestWholeCardSaid : Prop := Claim7.holds Tryz.pinned (.plain (OpenSpec.ofChange requestWholeSpec)) requestWholeCard

/-- THE TIED CARD OF 'covenantlaw04.RequestSplits'. -/
def requestSplitsCard : Claim7 := { stood := { row := requestSplitsRow, standIns := [], harness := (true, "5bcadfd1fd59b37bf762c8bce0f03c27e20e30d74c6ec0b660ec91994d6cfa7b"), looks := true }, kinds := [], alts := [], laidByText := true, laidKinds := [.data, .data, .data, .data, .sentinel, .sentinel, .pinned], laidTests := true, laidLooks := .later }
def RequestSplitsCardSaid : Prop := Claim7.holds Tryz.pinned (.plain (OpenSpec.ofChange requestSplitsSpec)) requestSplitsCard

/-- THE TIED CARD OF 'covenantlaw04.RequestWrites'. -/
def requestWritesCard : Claim7 := { stood := { row := requestWritesRow, standIns := [], harness := (true, "5bcadfd1fd59b37bf762c8bce0f03c27e20e30d74c6ec0b660ec91994d6cfa7b"), looks := true }, kinds := [], alts := [], laidByText := true, laidKinds := [.data, .data, .data, .data, .sentinel, .sentinel, .pinned], laidTests := true, laidLooks := .later }
def RequestWritesCardSaid : Prop := Claim7.holds Tryz.pinned (.plain (OpenSpec.ofChange requestWritesSpec)) requestWritesCard

/-- THE TIED CARD OF 'covenantlaw04.RequestSteps'. -/
def requestStepsCard : Claim7 := { stood := { row := requestStepsRow, standIns := [], harness := (true, "5bcadfd1fd59b37bf762c8bce0f03c27e20e30d74c6ec0b660ec91994d6cfa7b"), looks := true }, kinds := [], alts := [], laidByText := true, laidKinds := [.data, .data, .data, .data, .sentinel, .sentinel, .pinned], laidTests := true, laidLooks := .later }
def RequestStepsCardSaid : Prop := Claim7.holds Tryz.pinned (.plain (OpenSpec.ofChange requestStepsSpec)) requestStepsCard

/-- THE TIED CARD OF 'covenantlaw04.RequestNobody'. -/
def requestNobodyCard : Claim7 := { stood := { row := requestNobodyRow, standIns := [], harness := (true, "5bcadfd1fd59b37bf762c8bce0f03c27e20e30d74c6ec0b660ec91994d6cfa7b"), looks := true }, kinds := [], alts := [], laidByText := true, laidKinds := [.data, .data, .data, .data, .sentinel, .sentinel, .pinned], laidTests := true, laidLooks := .later }
def RequestNobodyCardSaid : Prop := Claim7.holds Tryz.pinned (.plain (OpenSpec.ofChange requestNobodySpec)) requestNobodyCard

/-- THE TIED CARD OF 'covenantlaw04.RequestBack'. -/
def requestBackCard : Claim7 := { stood := { row := requestBackRow, standIns := [], harness := (true, "5bcadfd1fd59b37bf762c8bce0f03c27e20e30d74c6ec0b660ec91994d6cfa7b"), looks := true }, kinds := [], alts := [], laidByText := true, laidKinds := [.data, .data, .data, .data, .sentinel, .sentinel, .pinned], laidTests := true, laidLooks := .later }
def RequestBackCardSaid : Prop := Claim7.holds Tryz.pinned (.plain (OpenSpec.ofChange requestBackSpec)) requestBackCard

/-- THE SECOND FORM's CARD OF 'covenantlaw04.RequestWhole'. -/
def requestWholeUptoCard : Claim7 := { stood := { row := requestWholeUptoRow, standIns := [], harness := (true, "5bcadfd1fd59b37bf762c8bce0f03c27e20e30d74c6ec0b660ec91994d6cfa7b"), looks := true }, kinds := [], alts := [], laidByText := true, laidKinds := [.data, .data, .data, .data, .sentinel, .sentinel, .pinned], laidTests := true, laidLooks := .later }
def RequestWholeUptoCardSaid : Prop := Claim7.holds Tryz.pinned (.plain (OpenSpec.upto requestWholeSpec)) requestWholeUptoCard

/-- THE SECOND FORM's CARD OF 'covenantlaw04.RequestSplits'. -/
def requestSplitsUptoCard : Claim7 := { stood := { row := requestSplitsUptoRow, standIns := [], harness := (true, "5bcadfd1fd59b37bf762c8bce0f03c27e20e30d74c6ec0b660ec91994d6cfa7b"), looks := true }, kinds := [], alts := [], laidByText := true, laidKinds := [.data, .data, .data, .data, .sentinel, .sentinel, .pinned], laidTests := true, laidLooks := .later }
def RequestSplitsUptoCardSaid : Prop := Claim7.holds Tryz.pinned (.plain (OpenSpec.upto requestSplitsSpec)) requestSplitsUptoCard

/-- THE SECOND FORM's CARD OF 'covenantlaw04.RequestWrites'. -/
def requestWritesUptoCard : Claim7 := { stood := { row := requestWritesUptoRow, standIns := [], harness := (true, "5bcadfd1fd59b37bf762c8bce0f03c27e20e30d74c6ec0b660ec91994d6cfa7b"), looks := true }, kinds := [], alts := [], laidByText := true, laidKinds := [.data, .data, .data, .data, .sentinel, .sentinel, .pinned], laidTests := true, laidLooks := .later }
def RequestWritesUptoCardSaid : Prop := Claim7.holds Tryz.pinned (.plain (OpenSpec.upto requestWritesSpec)) requestWritesUptoCard

/-- THE SECOND FORM's CARD OF 'covenantlaw04.RequestSteps'. -/
def requestStepsUptoCard : Claim7 := { stood := { row := requestStepsUptoRow, standIns := [], harness := (true, "5bcadfd1fd59b37bf762c8bce0f03c27e20e30d74c6ec0b660ec91994d6cfa7b"), looks := true }, kinds := [], alts := [], laidByText := true, laidKinds := [.data, .data, .data, .data, .sentinel, .sentinel, .pinned], laidTests := true, laidLooks := .later }
def RequestStepsUptoCardSaid : Prop := Claim7.holds Tryz.pinned (.plain (OpenSpec.upto requestStepsSpec)) requestStepsUptoCard

/-- THE SECOND FORM's CARD OF 'covenantlaw04.RequestNobody'. -/
def requestNobodyUptoCard : Claim7 := { stood := { row := requestNobodyUptoRow, standIns := [], harness := (true, "5bcadfd1fd59b37bf762c8bce0f03c27e20e30d74c6ec0b660ec91994d6cfa7b"), looks := true }, kinds := [], alts := [], laidByText := true, laidKinds := [.data, .data, .data, .data, .sentinel, .sentinel, .pinned], laidTests := true, laidLooks := .later }
def RequestNobodyUptoCardSaid : Prop := Claim7.holds Tryz.pinned (.plain (OpenSpec.upto requestNobodySpec)) requestNobodyUptoCard

/-- THE SECOND FORM's CARD OF 'covenantlaw04.RequestBack'. -/
def requestBackUptoCard : Claim7 := { stood := { row := requestBackUptoRow, standIns := [], harness := (true, "5bcadfd1fd59b37bf762c8bce0f03c27e20e30d74c6ec0b660ec91994d6cfa7b"), looks := true }, kinds := [], alts := [], laidByText := true, laidKinds := [.data, .data, .data, .data, .sentinel, .sentinel, .pinned], laidTests := true, laidLooks := .later }
def RequestBackUptoCardSaid : Prop := Claim7.holds Tryz.pinned (.plain (OpenSpec.upto requestBackSpec)) requestBackUptoCard
end Rows
end Go.Proofs.YtfkilbhhpipjbaaGreatDoor
