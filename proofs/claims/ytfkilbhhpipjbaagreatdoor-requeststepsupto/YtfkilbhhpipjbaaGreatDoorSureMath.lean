/- What the closed texts of sure come to. -/
import Derived.Test.YtfkilbhhpipjbaaGreatDoorWriteC
import Derived.Test.YtfkilbhhpipjbaaGreatDoorWhole
namespace Go.Proofs.YtfkilbhhpipjbaaGreatDoor.SureMath
open Go.Lib Go.Proofs.YtfkilbhhpipjbaaGreatDoor.TextMath Go.Proofs.YtfkilbhhpipjbaaGreatDoor.ReqMath
def L0 : Lim := ⟨10, 3, 32⟩
def T1 : List UInt8 := [42, 50, 13, 10, 36, 51, 13, 10, 71, 69, 84, 13, 10, 36, 49, 13, 10, 97, 13, 10, 115, 101, 116, 32, 107, 32, 39, 97, 32, 98, 39, 10, 36]
def T2 : List UInt8 := [42, 49, 13, 10, 120]
def T3 : List UInt8 := [80, 73, 78, 71, 13, 10]
example : decDigits 12 = [49, 50] := by decide +kernel
theorem whole1 : wholeS L0 T1 = ⟨[[[71, 69, 84], [97]], [[115, 101, 116], [107], [97, 32, 98]]], [], 32⟩ := by
  kernel_rfl
theorem whole2 : (wholeS L0 T2).word = wBulk := by kernel_rfl
theorem next3 : nextS L0 T3 = .one 6 [[80, 73, 78, 71]] := by kernel_rfl
theorem write4 : writeS [[97]] = [42, 49, 13, 10, 36, 49, 13, 10, 97, 13, 10] := by kernel_rfl
end Go.Proofs.YtfkilbhhpipjbaaGreatDoor.SureMath
