/- From what the rows list of the library's tables and errors to what the contracts ask. -/
import Derived.Test.YtfkilbhhpipjbaaGreatDoorSmall
import Derived.Test.YtfkilbhhpipjbaaGreatDoorRows
import Derived.ProofKit
import Derived.LaidMore
import Derived.Stop.Joined
import Derived.Stop.LaidErr
import Derived.Lib.LaidTab
namespace Go.Proofs.YtfkilbhhpipjbaaGreatDoor.Laid
open Go.RowKit
open Go.Proofs.YtfkilbhhpipjbaaGreatDoor.Small
set_option linter.unusedVariables false

theorem tPow : (Tryz.prog.globals[3]?).map (·.type) = some 146 := by kernel_rfl
theorem tSyn : (Tryz.prog.globals[4]?).map (·.type) = some 69 := by kernel_rfl
theorem tRng : (Tryz.prog.globals[5]?).map (·.type) = some 69 := by kernel_rfl
theorem g64 : Tryz.prog.globalNamed "math/bits.deBruijn64tab" = some 7 := by kernel_rfl
theorem t64 : (Tryz.prog.globals[7]?).map (·.type) = some 161 := by kernel_rfl
theorem cells114 : Tryz.prog.cellsOf 114 = 1 := by kernel_rfl
theorem cells146 : Tryz.prog.cellsOf 146 = 20 := by kernel_rfl
theorem cells159 : Tryz.prog.cellsOf 159 = 1 := by kernel_rfl
theorem cells9 : Tryz.prog.cellsOf 9 = 1 := by kernel_rfl
theorem cells5 : Tryz.prog.cellsOf 5 = 1 := by kernel_rfl
theorem cells161 : Tryz.prog.cellsOf 161 = 64 := by kernel_rfl
theorem pow_data : (Rows.laid_internal_strconv_uint64pow10 : DataW Unit) = Lib.tabData .u64 Lib.pow10Tab := by kernel_rfl
theorem tab_of {W : World} {r : List (String × DataW Unit)} (h : laidMet Tryz.prog (("internal/strconv.uint64pow10", Rows.laid_internal_strconv_uint64pow10) :: r) W) : Tab W := by
  rw [pow_data] at h
  exact Lib.tabIs_of_head gPow tPow Tryz.underlying146 Tryz.underlying114 cells114 cells146 h
theorem var_lt {w : World} {n : String} {g : Nat} {cs : Array Value} (hg : Tryz.prog.globalNamed n = some g) (h : w.var? Tryz.prog n = some cs) : g < w.heap.size := by
  unfold World.var? at h
  rw [hg] at h
  simp only [Option.bind_some] at h
  rcases Nat.lt_or_ge g w.heap.size with q | q
  · exact q
  · rw [Array.getElem?_eq_none q] at h; simp at h
def tab64 : List Int := [0, 1, 56, 2, 57, 49, 28, 3, 61, 58, 42, 50, 38, 29, 17, 4, 62, 47, 59, 36, 45, 43, 51, 22, 53, 39, 33, 30, 24, 18, 12, 5, 63, 55, 48, 27, 60, 41, 37, 16, 46, 35, 44, 21, 52, 32, 23, 11, 54, 26, 40, 15, 34, 20, 31, 10, 25, 14, 19, 9, 13, 8, 7, 6]
theorem data64 : (Rows.laid_math_bits_deBruijn64tab : DataW Unit) = Lib.tabData .u8 tab64 := by kernel_rfl
theorem size_of {W : World} {r : List (String × DataW Unit)} (h : laidMet Tryz.prog (("math/bits.deBruijn64tab", Rows.laid_math_bits_deBruijn64tab) :: r) W) : 8 ≤ W.heap.size := by
  rw [data64] at h
  exact var_lt g64 (Lib.tabIs_of_head g64 t64 Tryz.underlying161 Tryz.underlying5 cells5 cells161 h)
theorem star : "*" ++ "errors.errorString" = "*errors.errorString" := by decide
theorem row157 (u : TypeId) (h : Tryz.prog.typeName? 3 u = some "*errors.errorString") : u = 157 :=
  typeName_ptr_named (nm := "errors.errorString") (by rw [star]; kernel_rfl) (by kernel_rfl) (by decide) u (by rw [star]; exact h)
theorem rng_of {W : World} {r : List (String × DataW Unit)} (h : laidMet Tryz.prog (("strconv.ErrRange", Rows.laid_strconv_ErrRange) :: r) W) : ∃ tp p, W.var? Tryz.prog "strconv.ErrRange" = some #[.iface tp p] := by
  obtain ⟨a1, s1, hv1, -, -, -⟩ := laid_sentinel h gRng tRng Tryz.underlying69 row157 Tryz.underlying157 Tryz.underlying159 rfl rfl Tryz.underlying9 cells159 cells9
  exact ⟨_, _, hv1⟩
theorem syn_of {W : World} {r : List (String × DataW Unit)} (h : laidMet Tryz.prog (("strconv.ErrSyntax", Rows.laid_strconv_ErrSyntax) :: r) W) : ∃ tp p, W.var? Tryz.prog "strconv.ErrSyntax" = some #[.iface tp p] := by
  obtain ⟨a1, s1, hv1, -, -, -⟩ := laid_sentinel h gSyn tSyn Tryz.underlying69 row157 Tryz.underlying157 Tryz.underlying159 rfl rfl Tryz.underlying9 cells159 cells9
  exact ⟨_, _, hv1⟩
theorem has_of {W : World} (h : laidMet Tryz.prog [("math/bits.deBruijn32tab", Rows.laid_math_bits_deBruijn32tab), ("math/bits.deBruijn64tab", Rows.laid_math_bits_deBruijn64tab), ("internal/strconv.uint64pow10", Rows.laid_internal_strconv_uint64pow10), ("unicode/utf8.acceptRanges", Rows.laid_unicode_utf8_acceptRanges), ("strconv.ErrRange", Rows.laid_strconv_ErrRange), ("strconv.ErrSyntax", Rows.laid_strconv_ErrSyntax), ("unicode/utf8.first", Rows.laid_unicode_utf8_first)] W) : Has W :=
  ⟨tab_of h.tail.tail, syn_of h.tail.tail.tail.tail.tail, rng_of h.tail.tail.tail.tail, size_of h.tail⟩
end Go.Proofs.YtfkilbhhpipjbaaGreatDoor.Laid
