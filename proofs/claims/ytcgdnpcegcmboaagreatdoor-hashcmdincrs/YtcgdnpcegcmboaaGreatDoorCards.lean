/-
  DERIVED. GIVEN WITH THE SEED: THE CARDS: each row of YtcgdnpcegcmboaaGreatDoorRows.lean that lists a variable, with what it lists TIED to the program's text (the seventh form; the later family's looks); each row that meets fmt, with fmt's text TOLD by the authors' own Lean function (tested against real Go, not proved from fmt's source: count such statements apart). THE CARD IS WHAT COUNTS. Prove the row's statement (the work); the ties are given (YtcgdnpcegcmboaaGreatDoorTie.lean); close each card by the builder's one call (the guide's Derived/Test/ToyasCard.lean, 'card_holds'). Laid BY PROGRAM, IN A SANDBOX (cutbox-door.mjs). By AI agents, Wed Nov 11 2026. No macro, syntax, notation, axiom, sorry.
-/
import Derived.Test.YtcgdnpcegcmboaaGreatDoorRows
import GoSem.ClaimSeven
namespace Go.Proofs.YtcgdnpcegcmboaaGreatDoor
namespace Rows

/-- THE TIED CARD OF 'covenantlaw20.HashcmdNames'. -/
def hashcmdNamesCard : Claim7 := { stood := { row := hashcmdNamesRow, standIns := [], harness := (true, "47875dd0a24b0cdb5e5b7d6c7934cf742ad7277e204b8dd20446d511bdfe63cd"), looks := true }, kinds := [], alts := [], laidByText := true, laidKinds := [.data, .data, .data, .sentinel, .sentinel], laidTests := true, laidLooks := .later }
def HashcmdNamesCardSaid : Prop := Claim7.holds Tryz.pinned (.plain (OpenSpec.ofChange hashcmdNamesSpec)) hashcmdNamesCard

/-- THE TIED CARD OF 'covenantlaw20.HashcmdQuiet'. -/
def hashcmdQuietCard : Claim7 := { stood := { row := hashcmdQuietRow, standIns := [], harness := (true, "47875dd0a24b0cdb5e5b7d6c7934cf742ad7277e204b8dd20446d511bdfe63cd"), looks := true }, kinds := [], alts := [], laidByText := true, laidKinds := [.data, .data, .data, .sentinel, .sentinel], laidTests := true, laidLooks := .later }
def HashcmdQuietCardSaid : Prop := Claim7.holds Tryz.pinned (.plain (OpenSpec.ofChange hashcmdQuietSpec)) hashcmdQuietCard

/-- THE TIED CARD OF 'covenantlaw20.HashcmdLast'. -/
def hashcmdLastCard : Claim7 := { stood := { row := hashcmdLastRow, standIns := [], harness := (true, "47875dd0a24b0cdb5e5b7d6c7934cf742ad7277e204b8dd20446d511bdfe63cd"), looks := true }, kinds := [], alts := [], laidByText := true, laidKinds := [.data, .data, .data, .sentinel, .sentinel], laidTests := true, laidLooks := .later }
def HashcmdLastCardSaid : Prop := Claim7.holds Tryz.pinned (.plain (OpenSpec.ofChange hashcmdLastSpec)) hashcmdLastCard

/-- THE TIED CARD OF 'covenantlaw20.HashcmdIncrs'. -/
def hashcmdIncrsCard : Claim7 := { stood := { row := hashcmdIncrsRow, standIns := [], harness := (true, "47875dd0a24b0cdb5e5b7d6c7934cf742ad7277e204b8dd20446d511bdfe63cd"), looks := true }, kinds := [], alts := [], laidByText := true, laidKinds := [.data, .data, .data, .sentinel, .sentinel], laidTests := true, laidLooks := .later }
def HashcmdIncrsCardSaid : Prop := Claim7.holds Tryz.pinned (.plain (OpenSpec.ofChange hashcmdIncrsSpec)) hashcmdIncrsCard

/-- THE TIED CARD OF 'covenantlaw20.HashcmdWalk'. -/
def hashcmdWalkCard : Claim7 := { stood := { row := hashcmdWalkRow, standIns := [], harness := (true, "47875dd0a24b0cdb5e5b7d6c7934cf742ad7277e204b8dd20446d511bdfe63cd"), looks := true }, kinds := [], alts := [], laidByText := true, laidKinds := [.data, .data, .data, .sentinel, .sentinel], laidTests := true, laidLooks := .later }
def HashcmdWalkCardSaid : Prop := Claim7.holds Tryz.pinned (.plain (OpenSpec.ofChange hashcmdWalkSpec)) hashcmdWalkCard

/-- THE SECOND FORM's CARD OF 'covenantlaw20.HashcmdNames'. -/
def hashcmdNamesUptoCard : Claim7 := { stood := { row := hashcmdNamesUptoRow, standIns := [], harness := (true, "47875dd0a24b0cdb5e5b7d6c7934cf742ad7277e204b8dd20446d511bdfe63cd"), looks := true }, kinds := [], alts := [], laidByText := true, laidKinds := [.data, .data, .data, .sentinel, .sentinel], laidTests := true, laidLooks := .later }
def HashcmdNamesUptoCardSaid : Prop := Claim7.holds Tryz.pinned (.plain (OpenSpec.upto hashcmdNamesSpec)) hashcmdNamesUptoCard

/-- THE SECOND FORM's CARD OF 'covenantlaw20.HashcmdQuiet'. -/
def hashcmdQuietUptoCard : Claim7 := { stood := { row := hashcmdQuietUptoRow, standIns := [], harness := (true, "47875dd0a24b0cdb5e5b7d6c7934cf742ad7277e204b8dd20446d511bdfe63cd"), looks := true }, kinds := [], alts := [], laidByText := true, laidKinds := [.data, .data, .data, .sentinel, .sentinel], laidTests := true, laidLooks := .later }
def HashcmdQuietUptoCardSaid : Prop := Claim7.holds Tryz.pinned (.plain (OpenSpec.upto hashcmdQuietSpec)) hashcmdQuietUptoCard

/-- THE SECOND FORM's CARD OF 'covenantlaw20.HashcmdLast'. -/
def hashcmdLastUptoCard : Claim7 := { stood := { row := hashcmdLastUptoRow, standIns := [], harness := (true, "47875dd0a24b0cdb5e5b7d6c7934cf742ad7277e204b8dd20446d511bdfe63cd"), looks := true }, kinds := [], alts := [], laidByText := true, laidKinds := [.data, .data, .data, .sentinel, .sentinel], laidTests := true, laidLooks := .later }
def HashcmdLastUptoCardSaid : Prop := Claim7.holds Tryz.pinned (.plain (OpenSpec.upto hashcmdLastSpec)) hashcmdLastUptoCard

/-- THE SECOND FORM's CARD OF 'covenantlaw20.HashcmdIncrs'. -/
def hashcmdIncrsUptoCard : Claim7 := { stood := { row := hashcmdIncrsUptoRow, standIns := [], harness := (true, "47875dd0a24b0cdb5e5b7d6c7934cf742ad7277e204b8dd20446d511bdfe63cd"), looks := true }, kinds := [], alts := [], laidByText := true, laidKinds := [.data, .data, .data, .sentinel, .sentinel], laidTests := true, laidLooks := .later }
def HashcmdIncrsUptoCardSaid : Prop := Claim7.holds Tryz.pinned (.plain (OpenSpec.upto hashcmdIncrsSpec)) hashcmdIncrsUptoCard

/-- THE SECOND FORM's CARD OF 'covenantlaw20.HashcmdWalk'. -/
def hashcmdWalkUptoCard : Claim7 := { stood := { row := hashcmdWalkUptoRow, standIns := [], harness := (true, "47875dd0a24b0cdb5e5b7d6c7934cf742ad7277e204b8dd20446d511bdfe63cd"), looks := true }, kinds := [], alts := [], laidByText := true, laidKinds := [.data, .data, .data, .sentinel, .sentinel], laidTests := true, laidLooks := .later }
def HashcmdWalkUptoCardSaid : Prop := Claim7.holds Tryz.pinned (.plain (OpenSpec.upto hashcmdWalkSpec)) hashcmdWalkUptoCard
end Rows
end Go.Proofs.YtcgdnpcegcmboaaGreatDoor
