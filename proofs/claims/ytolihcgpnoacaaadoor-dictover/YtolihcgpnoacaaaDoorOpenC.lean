/- What a list of fields reads as has room. -/
import Derived.Test.YtolihcgpnoacaaaDoorOpenF
namespace Go.Proofs.YtolihcgpnoacaaaDoor.OpenC
open Go.ChangeShapes Go.WideShapes Go.RowKit
open Go.Proofs.YtolihcgpnoacaaaDoor.DictMath
open Go.Proofs.YtolihcgpnoacaaaDoor.Base
set_option linter.unusedVariables false
theorem open_cap {H : Type} {enc : TypeId × Value → H} {w : World} {fuel : Nat} {c : Value} {x : DataW H × List MemPlace} {l : FL} (h : DataW.trod enc Tryd.prog w 0 (fun _ => true) true fuel 22 [c] = some x) (hl : FS w c l) : ∃ a k, c = .slice a l.length k ∧ l.length ≤ k := by
  obtain ⟨a', c', e, _⟩ := hl
  rcases DataW.trod_slice Tryd.underlying22 h with ⟨e3, rfl⟩ | ⟨a, len, cap, elems, rest, m, rfl, e3, rfl, -, hlc, hcm, hel, hat, -, -⟩
  · cases e3
    injection e with _ e2 _
    exact ⟨none, 0, by rw [← e2], by omega⟩
  · cases e3
    injection e with e1 e2 e3
    exact ⟨some a, cap, by rw [← e2], by omega⟩
end Go.Proofs.YtolihcgpnoacaaaDoor.OpenC
