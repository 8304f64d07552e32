/- From what the rows list of the library's tables and errors to what the contracts ask. -/
import Derived.Test.YtfkilbhhpipjbabGreatDoorSmall
import Derived.Test.YtfkilbhhpipjbabGreatDoorRows
import Derived.ProofKit
import Derived.LaidMore
import Derived.Stop.Joined
import Derived.Stop.LaidErr
import Derived.Lib.LaidTab
namespace Go.Proofs.YtfkilbhhpipjbabGreatDoor.Laid
open Go.RowKit
open Go.Proofs.YtfkilbhhpipjbabGreatDoor.Small
set_option linter.unusedVariables false

theorem tPow : (Tryz.prog.globals[0]?).map (·.type) = some 91 := by kernel_rfl
theorem tSyn : (Tryz.prog.globals[2]?).map (·.type) = some 57 := by kernel_rfl
theorem tRng : (Tryz.prog.globals[3]?).map (·.type) = some 57 := by kernel_rfl
theorem g64 : Tryz.prog.globalNamed "math/bits.deBruijn64tab" = some 5 := by kernel_rfl
theorem t64 : (Tryz.prog.globals[5]?).map (·.type) = some 128 := by kernel_rfl
theorem cells114 : Tryz.prog.cellsOf 79 = 1 := by kernel_rfl
theorem cells146 : Tryz.prog.cellsOf 91 = 20 := by kernel_rfl
theorem cells159 : Tryz.prog.cellsOf 132 = 1 := by kernel_rfl
theorem cells9 : Tryz.prog.cellsOf 9 = 1 := by kernel_rfl
theorem cells5 : Tryz.prog.cellsOf 5 = 1 := by kernel_rfl
theorem cells161 : Tryz.prog.cellsOf 128 = 64 := by kernel_rfl
theorem pow_data : (Rows.laid_internal_strconv_uint64pow10 : DataW Unit) = Lib.tabData .u64 Lib.pow10Tab := by kernel_rfl
theorem tab_of {W : World} {r : List (String × DataW Unit)} (h : laidMet Tryz.prog (("internal/strconv.uint64pow10", Rows.laid_internal_strconv_uint64pow10) :: r) W) : Tab W := by
  rw [pow_data] at h
  exact Lib.tabIs_of_head gPow tPow Tryz.underlying91 Tryz.underlying79 cells114 cells146 h
theorem var_lt {w : World} {n : String} {g : Nat} {cs : Array Value} (hg : Tryz.prog.globalNamed n = some g) (h : w.var? Tryz.prog n = some cs) : g < w.heap.size := by
  unfold World.var? at h
  rw [hg] at h
  simp only [Option.bind_some] at h
  rcases Nat.lt_or_ge g w.heap.size with q | q
  · exact q
  · rw [Array.getElem?_eq_none q] at h; simp at h
theorem gAcc : Tryz.prog.globalNamed "unicode/utf8.acceptRanges" = some 7 := by kernel_rfl
theorem size_of {W : World} {r : List (String × DataW Unit)} (h : laidMet Tryz.prog (("unicode/utf8.acceptRanges", Rows.laid_unicode_utf8_acceptRanges) :: r) W) : 8 ≤ W.heap.size := by
  obtain ⟨ps, ⟨g', t', cs, fuel, p, q, hg', ht', hvar, hd, _, _⟩, _⟩ := h
  exact var_lt gAcc hvar
theorem star : "*" ++ "errors.errorString" = "*errors.errorString" := by decide
theorem row157 (u : TypeId) (h : Tryz.prog.typeName? 3 u = some "*errors.errorString") : u = 130 :=
  typeName_ptr_named (nm := "errors.errorString") (by rw [star]; kernel_rfl) (by kernel_rfl) (by decide) u (by rw [star]; exact h)
theorem rng_of {W : World} {r : List (String × DataW Unit)} (h : laidMet Tryz.prog (("strconv.ErrRange", Rows.laid_strconv_ErrRange) :: r) W) : ∃ tp p, W.var? Tryz.prog "strconv.ErrRange" = some #[.iface tp p] := by
  obtain ⟨a1, s1, hv1, -, -, -⟩ := laid_sentinel h gRng tRng Tryz.underlying57 row157 Tryz.underlying130 Tryz.underlying132 rfl rfl Tryz.underlying9 cells159 cells9
  exact ⟨_, _, hv1⟩
theorem syn_of {W : World} {r : List (String × DataW Unit)} (h : laidMet Tryz.prog (("strconv.ErrSyntax", Rows.laid_strconv_ErrSyntax) :: r) W) : ∃ tp p, W.var? Tryz.prog "strconv.ErrSyntax" = some #[.iface tp p] := by
  obtain ⟨a1, s1, hv1, -, -, -⟩ := laid_sentinel h gSyn tSyn Tryz.underlying57 row157 Tryz.underlying130 Tryz.underlying132 rfl rfl Tryz.underlying9 cells159 cells9
  exact ⟨_, _, hv1⟩
theorem has_of {W : World} (h : laidMet Tryz.prog [("math/bits.deBruijn32tab", Rows.laid_math_bits_deBruijn32tab), ("math/bits.deBruijn64tab", Rows.laid_math_bits_deBruijn64tab), ("internal/strconv.uint64pow10", Rows.laid_internal_strconv_uint64pow10), ("unicode/utf8.acceptRanges", Rows.laid_unicode_utf8_acceptRanges), ("strconv.ErrRange", Rows.laid_strconv_ErrRange), ("strconv.ErrSyntax", Rows.laid_strconv_ErrSyntax), ("unicode/utf8.first", Rows.laid_unicode_utf8_first)] W) : Has W :=
  ⟨tab_of h.tail.tail, syn_of h.tail.tail.tail.tail.tail, rng_of h.tail.tail.tail.tail, size_of h.tail.tail.tail⟩
end Go.Proofs.YtfkilbhhpipjbabGreatDoor.Laid
