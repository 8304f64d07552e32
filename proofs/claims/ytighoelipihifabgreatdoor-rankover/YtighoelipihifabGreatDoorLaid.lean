/- From what the rows list of the library's tables and errors to what the contracts ask. -/
import Derived.Test.YtighoelipihifabGreatDoorPrint
import Derived.ProofKit
import Derived.LaidMore
import Derived.Stop.Joined
import Derived.Stop.LaidErr
import Derived.Lib.LaidTab
namespace Go.Proofs.YtighoelipihifabGreatDoor.Laid
open Go.RowKit
open Go.Proofs.YtighoelipihifabGreatDoor.Print

theorem gPow : Tryz.prog.globalNamed "internal/strconv.uint64pow10" = some 2 := by kernel_rfl
theorem tPow : (Tryz.prog.globals[2]?).map (·.type) = some 144 := by kernel_rfl
theorem gSyn : Tryz.prog.globalNamed "strconv.ErrSyntax" = some 0 := by kernel_rfl
theorem tSyn : (Tryz.prog.globals[0]?).map (·.type) = some 103 := by kernel_rfl
theorem gRng : Tryz.prog.globalNamed "strconv.ErrRange" = some 1 := by kernel_rfl
theorem tRng : (Tryz.prog.globals[1]?).map (·.type) = some 103 := by kernel_rfl
theorem cells76 : Tryz.prog.cellsOf 100 = 1 := by kernel_rfl
theorem cells122 : Tryz.prog.cellsOf 144 = 20 := by kernel_rfl
theorem cells131 : Tryz.prog.cellsOf 137 = 1 := by kernel_rfl
theorem cells9 : Tryz.prog.cellsOf 9 = 1 := by kernel_rfl
theorem pow_data : (Rows.laid_internal_strconv_uint64pow10 : DataW Unit) = Lib.tabData .u64 Lib.pow10Tab := by kernel_rfl
theorem tab_of {W : World} {r : List (String × DataW Unit)} (h : laidMet Tryz.prog (("internal/strconv.uint64pow10", Rows.laid_internal_strconv_uint64pow10) :: r) W) : Tab W := by
  rw [pow_data] at h
  exact Lib.tabIs_of_head gPow tPow Tryz.underlying144 Tryz.underlying100 cells76 cells122 h
end Go.Proofs.YtighoelipihifabGreatDoor.Laid
