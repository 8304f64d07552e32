/- Same: the program's. -/
import Derived.Test.YtdcnkdkhanmklabVals
namespace Go.Proofs.Ytdcnkdkhanmklab.Same
open Go.RowKit Go.Maps
open Go.Proofs.Ytdcnkdkhanmklab.SetMath
open Go.Proofs.Ytdcnkdkhanmklab.ValueMath
open Go.Proofs.Ytdcnkdkhanmklab.Base
open Go.Proofs.Ytdcnkdkhanmklab.Vals
set_option linter.unusedVariables false

theorem Fit.len {x : Vl} (h : Fit x) : x.list.length ≤ 140737488355328 ∧ x.fields.length ≤ 140737488355328 ∧ x.ranked.length ≤ 140737488355328 := by
  obtain ⟨h1, h2, h3⟩ := h
  unfold FRow.big at h2
  unfold ERow.big at h3
  exact ⟨by omega, by omega, by omega⟩
end Go.Proofs.Ytdcnkdkhanmklab.Same
