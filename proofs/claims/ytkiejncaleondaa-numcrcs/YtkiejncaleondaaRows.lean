/-
  No cell of these rows narrows 'for every input' (looked for: loops, veiled, ifaces, maps, wideKeys, modest, calm, conditions, laid).
  DERIVED. THE GIVEN ROWS OF THIS SEAT. 4 by the template 'for every input the law returns true; each argument reads behind the call as it read before'; 0 by the template 'total and deterministic' (their statements: YtkiejncaleondaaTotals.lean).
  GIVEN WITH THE SEED: the statements are not yours to turn. If you find one false, say at which input.
  Laid BY PROGRAM, IN A SANDBOX (cutbox-rows.mjs): the forced cells as the released guide's own fill.sh prints them over the translation ad3ff199ca3af5d1… (all of the seat's roots in one cut). By AI agents, Wed Nov 11 2026. No macro, syntax, notation, axiom, sorry.
-/
import Derived.Test.YtkiejncaleondaaChecked
import GoSem.Claim
import GoSem.ClaimJoined
import GoSem.ClaimMapViews
import Derived.JoinedTies
import Derived.KernelRfl
namespace Go.Proofs.Ytkiejncaleondaa
/- THE CELL 'sum', in the pinned program and in every row, IS THE sha256 OF THE DUMP (.gsa) THAT YtkiejncaleondaaProg.lean LOADS. Nothing in Lean hashes anything: it is a label: what it is worth is what the hold of that sum in a sandbox is worth. -/
noncomputable def Try.pinned : Pinned := { name := "ytkiejncaleondaa", sum := "ad3ff199ca3af5d12ca95a9e9187561c8593320d42f137dfbecd36beb1e8eb90", checked := Try.checked }
namespace Rows
def none {H : Type} : Left H := { results := [], args := [] }

/-- 'covenantlaw01.NumSums': WHATEVER THE INPUT: true; the input reads as it did. -/
def numSumsSpec : ChangeSpec := { name := "numSums", fn := fun _ => fun
  | [d1, d2] => { results := [.lit (.bool true)], args := [d1, d2] }
  | _ => none }
def numSumsRow : OpenClaim := { program := "ytkiejncaleondaa", sum := "ad3ff199ca3af5d12ca95a9e9187561c8593320d42f137dfbecd36beb1e8eb90", func := "covenant/covenantlaw01.NumSums", spec := "numSums", apart := false }
def NumSumsSaid : Prop := numSumsRow.holds Try.pinned (OpenSpec.ofChange numSumsSpec)

/-- ITS FALSE NEIGHBOUR: 'it returns false'. Refute it at one input. -/
def numSumsWrong : ChangeSpec := { name := "numSums", fn := fun _ => fun
  | [d1, d2] => { results := [.lit (.bool false)], args := [d1, d2] }
  | _ => none }
def NumSumsWrongFalsely : Prop := numSumsRow.holds Try.pinned (OpenSpec.ofChange numSumsWrong)

/-- 'covenantlaw01.NumFixes': WHATEVER THE INPUT: true; the input reads as it did. -/
def numFixesSpec : ChangeSpec := { name := "numFixes", fn := fun _ => fun
  | [d1, d2] => { results := [.lit (.bool true)], args := [d1, d2] }
  | _ => none }
def numFixesRow : OpenClaim := { program := "ytkiejncaleondaa", sum := "ad3ff199ca3af5d12ca95a9e9187561c8593320d42f137dfbecd36beb1e8eb90", func := "covenant/covenantlaw01.NumFixes", spec := "numFixes", apart := false }
def NumFixesSaid : Prop := numFixesRow.holds Try.pinned (OpenSpec.ofChange numFixesSpec)

/-- ITS FALSE NEIGHBOUR: 'it returns false'. Refute it at one input. -/
def numFixesWrong : ChangeSpec := { name := "numFixes", fn := fun _ => fun
  | [d1, d2] => { results := [.lit (.bool false)], args := [d1, d2] }
  | _ => none }
def NumFixesWrongFalsely : Prop := numFixesRow.holds Try.pinned (OpenSpec.ofChange numFixesWrong)

/-- 'covenantlaw01.NumUnfixes': WHATEVER THE INPUT: true; the input reads as it did. -/
def numUnfixesSpec : ChangeSpec := { name := "numUnfixes", fn := fun _ => fun
  | [d] => { results := [.lit (.bool true)], args := [d] }
  | _ => none }
def numUnfixesRow : OpenClaim := { program := "ytkiejncaleondaa", sum := "ad3ff199ca3af5d12ca95a9e9187561c8593320d42f137dfbecd36beb1e8eb90", func := "covenant/covenantlaw01.NumUnfixes", spec := "numUnfixes", apart := false }
def NumUnfixesSaid : Prop := numUnfixesRow.holds Try.pinned (OpenSpec.ofChange numUnfixesSpec)

/-- ITS FALSE NEIGHBOUR: 'it returns false'. Refute it at one input. -/
def numUnfixesWrong : ChangeSpec := { name := "numUnfixes", fn := fun _ => fun
  | [d] => { results := [.lit (.bool false)], args := [d] }
  | _ => none }
def NumUnfixesWrongFalsely : Prop := numUnfixesRow.holds Try.pinned (OpenSpec.ofChange numUnfixesWrong)

/-- 'covenantlaw01.NumCrcs': WHATEVER THE INPUT: true; the input reads as it did. -/
def numCrcsSpec : ChangeSpec := { name := "numCrcs", fn := fun _ => fun
  | [d] => { results := [.lit (.bool true)], args := [d] }
  | _ => none }
def numCrcsRow : OpenClaim := { program := "ytkiejncaleondaa", sum := "ad3ff199ca3af5d12ca95a9e9187561c8593320d42f137dfbecd36beb1e8eb90", func := "covenant/covenantlaw01.NumCrcs", spec := "numCrcs", apart := false }
def NumCrcsSaid : Prop := numCrcsRow.holds Try.pinned (OpenSpec.ofChange numCrcsSpec)

/-- ITS FALSE NEIGHBOUR: 'it returns false'. Refute it at one input. -/
def numCrcsWrong : ChangeSpec := { name := "numCrcs", fn := fun _ => fun
  | [d] => { results := [.lit (.bool false)], args := [d] }
  | _ => none }
def NumCrcsWrongFalsely : Prop := numCrcsRow.holds Try.pinned (OpenSpec.ofChange numCrcsWrong)

/- THE SECOND FORM. 'bulk': how many values and letters a reading holds, each counted each time it is reached (what is shared counts as often as it is met; a slice's spare places count too). A statement '..UptoSaid' is the law's where the arguments, and the package variables that the reading takes, are together of bulk at most 1048576: NARROWER than '..Said'. Prove '..Said' where nothing that the law and all that it calls make is longer than what came in: it says more and counts as full. Else prove '..UptoSaid'. A law counts once. -/
mutual
def uptoBulk {H : Type} : DataW H → Nat
  | .lit (.string bytes) => bytes.length + 1
  | .lit _ => 1
  | .nil => 1
  | .ptr d => uptoBulk d + 1
  | .slice elems spare => uptoBulkAll elems + uptoBulkAll spare + 1
  | .agg parts => uptoBulkAll parts + 1
  | .iface _ d => uptoBulk d + 1
  | .map entries => uptoBulkEntries entries + 1
  | .held _ => 1
def uptoBulkAll {H : Type} : List (DataW H) → Nat
  | [] => 0
  | d :: r => uptoBulk d + uptoBulkAll r
def uptoBulkEntries {H : Type} : List (Lit × DataW H) → Nat
  | [] => 0
  | x :: r => uptoBulkEntry x + uptoBulkEntries r
def uptoBulkEntry {H : Type} : Lit × DataW H → Nat
  | (.string bytes, d) => bytes.length + uptoBulk d + 1
  | (_, d) => uptoBulk d + 1
 end
def uptoSmall : (H : Type) → List (DataW H) → Bool := fun _ ds => decide (uptoBulkAll ds ≤ 1048576)
def OpenSpec.upto (s : _root_.Go.ChangeSpec) : _root_.Go.OpenSpec := { _root_.Go.OpenSpec.ofChange s with cond := some uptoSmall }

/-- 'covenantlaw01.NumSums', WHERE WHAT IT READS IS OF BULK AT MOST 1048576: true; the input reads as it did. -/
def numSumsUptoRow : OpenClaim := { program := "ytkiejncaleondaa", sum := "ad3ff199ca3af5d12ca95a9e9187561c8593320d42f137dfbecd36beb1e8eb90", func := "covenant/covenantlaw01.NumSums", spec := "numSums", apart := false, narrowed := true }
def NumSumsUptoSaid : Prop := numSumsUptoRow.holds Try.pinned (OpenSpec.upto numSumsSpec)

/-- 'covenantlaw01.NumFixes', WHERE WHAT IT READS IS OF BULK AT MOST 1048576: true; the input reads as it did. -/
def numFixesUptoRow : OpenClaim := { program := "ytkiejncaleondaa", sum := "ad3ff199ca3af5d12ca95a9e9187561c8593320d42f137dfbecd36beb1e8eb90", func := "covenant/covenantlaw01.NumFixes", spec := "numFixes", apart := false, narrowed := true }
def NumFixesUptoSaid : Prop := numFixesUptoRow.holds Try.pinned (OpenSpec.upto numFixesSpec)

/-- 'covenantlaw01.NumUnfixes', WHERE WHAT IT READS IS OF BULK AT MOST 1048576: true; the input reads as it did. -/
def numUnfixesUptoRow : OpenClaim := { program := "ytkiejncaleondaa", sum := "ad3ff199ca3af5d12ca95a9e9187561c8593320d42f137dfbecd36beb1e8eb90", func := "covenant/covenantlaw01.NumUnfixes", spec := "numUnfixes", apart := false, narrowed := true }
def NumUnfixesUptoSaid : Prop := numUnfixesUptoRow.holds Try.pinned (OpenSpec.upto numUnfixesSpec)

/-- 'covenantlaw01.NumCrcs', WHERE WHAT IT READS IS OF BULK AT MOST 1048576: true; the input reads as it did. -/
def numCrcsUptoRow : OpenClaim := { program := "ytkiejncaleondaa", sum := "ad3ff199ca3af5d12ca95a9e9187561c8593320d42f137dfbecd36beb1e8eb90", func := "covenant/covenantlaw01.NumCrcs", spec := "numCrcs", apart := false, narrowed := true }
def NumCrcsUptoSaid : Prop := numCrcsUptoRow.holds Try.pinned (OpenSpec.upto numCrcsSpec)

end Rows
end Go.Proofs.Ytkiejncaleondaa
