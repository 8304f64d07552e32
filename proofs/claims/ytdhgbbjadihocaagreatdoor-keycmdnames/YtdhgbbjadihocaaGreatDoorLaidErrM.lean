/- From what the rows list of the library's two errors to what the contracts ask. -/
import Derived.Test.YtdhgbbjadihocaaGreatDoorQBaseM
namespace Go.Proofs.YtdhgbbjadihocaaGreatDoor.LaidErr
open Go.RowKit
open Go.Proofs.YtdhgbbjadihocaaGreatDoor.Laid

theorem star : "*" ++ "errors.errorString" = "*errors.errorString" := by decide
theorem row129 (u : TypeId) (h : Tryz.prog.typeName? 3 u = some "*errors.errorString") : u = 259 :=
  typeName_ptr_named (nm := "errors.errorString") (by rw [star]; kernel_rfl) (by kernel_rfl) (by decide) u (by rw [star]; exact h)
theorem rng_of {W : World} {r : List (String × DataW Unit)} (h : laidMet Tryz.prog (("strconv.ErrRange", Rows.laid_strconv_ErrRange) :: r) W) : ∃ tp p, W.var? Tryz.prog "strconv.ErrRange" = some #[.iface tp p] := by
  obtain ⟨a1, s1, hv1, -, -, -⟩ := laid_sentinel h gRng tRng Tryz.underlying153 row129 Tryz.underlying259 Tryz.underlying261 rfl rfl Tryz.underlying9 cells131 cells9
  exact ⟨_, _, hv1⟩
theorem syn_of {W : World} {r : List (String × DataW Unit)} (h : laidMet Tryz.prog (("strconv.ErrSyntax", Rows.laid_strconv_ErrSyntax) :: r) W) : ∃ tp p, W.var? Tryz.prog "strconv.ErrSyntax" = some #[.iface tp p] := by
  obtain ⟨a1, s1, hv1, -, -, -⟩ := laid_sentinel h gSyn tSyn Tryz.underlying153 row129 Tryz.underlying259 Tryz.underlying261 rfl rfl Tryz.underlying9 cells131 cells9
  exact ⟨_, _, hv1⟩
end Go.Proofs.YtdhgbbjadihocaaGreatDoor.LaidErr
