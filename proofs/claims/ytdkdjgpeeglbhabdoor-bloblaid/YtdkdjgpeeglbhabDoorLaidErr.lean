/- From what the rows list of the library's two errors to what the contracts ask. -/
import Derived.Test.YtdkdjgpeeglbhabDoorLaid
namespace Go.Proofs.YtdkdjgpeeglbhabDoor.LaidErr
open Go.RowKit
open Go.Proofs.YtdkdjgpeeglbhabDoor.Laid

theorem star : "*" ++ "errors.errorString" = "*errors.errorString" := by decide
theorem row78 (u : TypeId) (h : Tryd.prog.typeName? 3 u = some "*errors.errorString") : u = 78 :=
  typeName_ptr_named (nm := "errors.errorString") (by rw [star]; kernel_rfl) (by kernel_rfl) (by decide) u (by rw [star]; exact h)
theorem rng_of {W : World} {r : List (String × DataW Unit)} (h : laidMet Tryd.prog (("strconv.ErrRange", Rows.laid_strconv_ErrRange) :: r) W) : ∃ tp p, W.var? Tryd.prog "strconv.ErrRange" = some #[.iface tp p] := by
  obtain ⟨a1, s1, hv1, -, -, -⟩ := laid_sentinel h gRng tRng Tryd.underlying50 row78 Tryd.underlying78 Tryd.underlying80 rfl rfl Tryd.underlying9 cells80 cells9
  exact ⟨_, _, hv1⟩
theorem syn_of {W : World} {r : List (String × DataW Unit)} (h : laidMet Tryd.prog (("strconv.ErrSyntax", Rows.laid_strconv_ErrSyntax) :: r) W) : ∃ tp p, W.var? Tryd.prog "strconv.ErrSyntax" = some #[.iface tp p] := by
  obtain ⟨a1, s1, hv1, -, -, -⟩ := laid_sentinel h gSyn tSyn Tryd.underlying50 row78 Tryd.underlying78 Tryd.underlying80 rfl rfl Tryd.underlying9 cells80 cells9
  exact ⟨_, _, hv1⟩
end Go.Proofs.YtdkdjgpeeglbhabDoor.LaidErr
