/- The tables: the program's seven, the document's one, and that they say the same. A row of operations that only make values and blocks, run by reckoning. A function that lays a table: values, then a row of them. -/
import Derived.Test.YtiofnocmibjepaaGreatDoorProg
import Derived.WalkKit
import Derived.Great.BuildSlice
section
namespace Go.Proofs.YtiofnocmibjepaaGreatDoor.Tab
open Go
set_option linter.unusedVariables false
set_option linter.unusedSimpArgs false
abbrev Bs := List UInt8
/- a row of the program: name, arity, part, first, last, step -/
structure Rw where
  name : Bs
  arity : Int
  part : Int
  first : Int
  last : Int
  step : Int
  deriving DecidableEq
/- a row as it is told -/
structure Sc where
  name : Bs
  arity : Int
  wr : Bool
  ct : Bool
  first : Int
  last : Int
  step : Int
  deriving DecidableEq
def spec (r : Rw) : Sc := ⟨r.name, r.arity, r.part == 1, r.part == 2, r.first, r.last, r.step⟩
def controlRows : List Rw := [
  ⟨[100, 105, 115, 99, 97, 114, 100], 1, 2, 0, 0, 0⟩,
  ⟨[101, 120, 101, 99], 1, 2, 0, 0, 0⟩,
  ⟨[109, 117, 108, 116, 105], 1, 2, 0, 0, 0⟩,
  ⟨[113, 117, 105, 116], 1, 2, 0, 0, 0⟩,
  ⟨[114, 101, 115, 101, 116], 1, 2, 0, 0, 0⟩,
  ⟨[117, 110, 119, 97, 116, 99, 104], 1, 2, 0, 0, 0⟩,
  ⟨[119, 97, 116, 99, 104], -2, 2, 1, -1, 1⟩]
def stringRows : List Rw := [
  ⟨[97, 112, 112, 101, 110, 100], 3, 1, 1, 1, 1⟩,
  ⟨[98, 105, 116, 99, 111, 117, 110, 116], -2, 0, 1, 1, 1⟩,
  ⟨[98, 105, 116, 111, 112], -4, 1, 2, -1, 1⟩,
  ⟨[98, 105, 116, 112, 111, 115], -3, 0, 1, 1, 1⟩,
  ⟨[100, 101, 99, 114], 2, 1, 1, 1, 1⟩,
  ⟨[100, 101, 99, 114, 98, 121], 3, 1, 1, 1, 1⟩,
  ⟨[103, 101, 116], 2, 0, 1, 1, 1⟩,
  ⟨[103, 101, 116, 98, 105, 116], 3, 0, 1, 1, 1⟩,
  ⟨[103, 101, 116, 100, 101, 108], 2, 1, 1, 1, 1⟩,
  ⟨[103, 101, 116, 101, 120], -2, 1, 1, 1, 1⟩,
  ⟨[103, 101, 116, 114, 97, 110, 103, 101], 4, 0, 1, 1, 1⟩,
  ⟨[103, 101, 116, 115, 101, 116], 3, 1, 1, 1, 1⟩,
  ⟨[105, 110, 99, 114], 2, 1, 1, 1, 1⟩,
  ⟨[105, 110, 99, 114, 98, 121], 3, 1, 1, 1, 1⟩,
  ⟨[109, 103, 101, 116], -2, 0, 1, -1, 1⟩,
  ⟨[109, 115, 101, 116], -3, 1, 1, -1, 2⟩,
  ⟨[109, 115, 101, 116, 110, 120], -3, 1, 1, -1, 2⟩,
  ⟨[112, 115, 101, 116, 101, 120], 4, 1, 1, 1, 1⟩,
  ⟨[115, 101, 116], -3, 1, 1, 1, 1⟩,
  ⟨[115, 101, 116, 98, 105, 116], 4, 1, 1, 1, 1⟩,
  ⟨[115, 101, 116, 101, 120], 4, 1, 1, 1, 1⟩,
  ⟨[115, 101, 116, 110, 120], 3, 1, 1, 1, 1⟩,
  ⟨[115, 101, 116, 114, 97, 110, 103, 101], 4, 1, 1, 1, 1⟩,
  ⟨[115, 116, 114, 108, 101, 110], 2, 0, 1, 1, 1⟩]
def keyRows : List Rw := [
  ⟨[99, 111, 112, 121], -3, 1, 1, 2, 1⟩,
  ⟨[100, 98, 115, 105, 122, 101], 1, 0, 0, 0, 0⟩,
  ⟨[100, 101, 108], -2, 1, 1, -1, 1⟩,
  ⟨[100, 117, 109, 112], 2, 0, 1, 1, 1⟩,
  ⟨[101, 99, 104, 111], 2, 0, 0, 0, 0⟩,
  ⟨[101, 120, 105, 115, 116, 115], -2, 0, 1, -1, 1⟩,
  ⟨[101, 120, 112, 105, 114, 101], -3, 1, 1, 1, 1⟩,
  ⟨[101, 120, 112, 105, 114, 101, 97, 116], -3, 1, 1, 1, 1⟩,
  ⟨[101, 120, 112, 105, 114, 101, 116, 105, 109, 101], 2, 0, 1, 1, 1⟩,
  ⟨[102, 108, 117, 115, 104, 97, 108, 108], 1, 1, 0, 0, 0⟩,
  ⟨[102, 108, 117, 115, 104, 100, 98], 1, 1, 0, 0, 0⟩,
  ⟨[107, 101, 121, 115], 2, 0, 0, 0, 0⟩,
  ⟨[112, 101, 114, 115, 105, 115, 116], 2, 1, 1, 1, 1⟩,
  ⟨[112, 101, 120, 112, 105, 114, 101], -3, 1, 1, 1, 1⟩,
  ⟨[112, 101, 120, 112, 105, 114, 101, 97, 116], -3, 1, 1, 1, 1⟩,
  ⟨[112, 101, 120, 112, 105, 114, 101, 116, 105, 109, 101], 2, 0, 1, 1, 1⟩,
  ⟨[112, 105, 110, 103], -1, 0, 0, 0, 0⟩,
  ⟨[112, 116, 116, 108], 2, 0, 1, 1, 1⟩,
  ⟨[114, 101, 110, 97, 109, 101], 3, 1, 1, 2, 1⟩,
  ⟨[114, 101, 110, 97, 109, 101, 110, 120], 3, 1, 1, 2, 1⟩,
  ⟨[114, 101, 115, 116, 111, 114, 101], -4, 1, 1, 1, 1⟩,
  ⟨[115, 99, 97, 110], -2, 0, 0, 0, 0⟩,
  ⟨[116, 116, 108], 2, 0, 1, 1, 1⟩,
  ⟨[116, 121, 112, 101], 2, 0, 1, 1, 1⟩,
  ⟨[117, 110, 108, 105, 110, 107], -2, 1, 1, -1, 1⟩]
def listRows : List Rw := [
  ⟨[108, 105, 110, 100, 101, 120], 3, 0, 1, 1, 1⟩,
  ⟨[108, 105, 110, 115, 101, 114, 116], 5, 1, 1, 1, 1⟩,
  ⟨[108, 108, 101, 110], 2, 0, 1, 1, 1⟩,
  ⟨[108, 109, 111, 118, 101], 5, 1, 1, 2, 1⟩,
  ⟨[108, 112, 111, 112], -2, 1, 1, 1, 1⟩,
  ⟨[108, 112, 111, 115], -3, 0, 1, 1, 1⟩,
  ⟨[108, 112, 117, 115, 104], -3, 1, 1, 1, 1⟩,
  ⟨[108, 112, 117, 115, 104, 120], -3, 1, 1, 1, 1⟩,
  ⟨[108, 114, 97, 110, 103, 101], 4, 0, 1, 1, 1⟩,
  ⟨[108, 114, 101, 109], 4, 1, 1, 1, 1⟩,
  ⟨[108, 115, 101, 116], 4, 1, 1, 1, 1⟩,
  ⟨[108, 116, 114, 105, 109], 4, 1, 1, 1, 1⟩,
  ⟨[114, 112, 111, 112], -2, 1, 1, 1, 1⟩,
  ⟨[114, 112, 111, 112, 108, 112, 117, 115, 104], 3, 1, 1, 2, 1⟩,
  ⟨[114, 112, 117, 115, 104], -3, 1, 1, 1, 1⟩,
  ⟨[114, 112, 117, 115, 104, 120], -3, 1, 1, 1, 1⟩]
def hashRows : List Rw := [
  ⟨[104, 100, 101, 108], -3, 1, 1, 1, 1⟩,
  ⟨[104, 101, 120, 105, 115, 116, 115], 3, 0, 1, 1, 1⟩,
  ⟨[104, 103, 101, 116], 3, 0, 1, 1, 1⟩,
  ⟨[104, 103, 101, 116, 97, 108, 108], 2, 0, 1, 1, 1⟩,
  ⟨[104, 105, 110, 99, 114, 98, 121], 4, 1, 1, 1, 1⟩,
  ⟨[104, 107, 101, 121, 115], 2, 0, 1, 1, 1⟩,
  ⟨[104, 108, 101, 110], 2, 0, 1, 1, 1⟩,
  ⟨[104, 109, 103, 101, 116], -3, 0, 1, 1, 1⟩,
  ⟨[104, 109, 115, 101, 116], -4, 1, 1, 1, 1⟩,
  ⟨[104, 115, 99, 97, 110], -3, 0, 1, 1, 1⟩,
  ⟨[104, 115, 101, 116], -4, 1, 1, 1, 1⟩,
  ⟨[104, 115, 101, 116, 110, 120], 4, 1, 1, 1, 1⟩,
  ⟨[104, 115, 116, 114, 108, 101, 110], 3, 0, 1, 1, 1⟩,
  ⟨[104, 118, 97, 108, 115], 2, 0, 1, 1, 1⟩]
def setRows : List Rw := [
  ⟨[115, 97, 100, 100], -3, 1, 1, 1, 1⟩,
  ⟨[115, 99, 97, 114, 100], 2, 0, 1, 1, 1⟩,
  ⟨[115, 100, 105, 102, 102], -2, 0, 1, -1, 1⟩,
  ⟨[115, 100, 105, 102, 102, 115, 116, 111, 114, 101], -3, 1, 1, -1, 1⟩,
  ⟨[115, 105, 110, 116, 101, 114], -2, 0, 1, -1, 1⟩,
  ⟨[115, 105, 110, 116, 101, 114, 115, 116, 111, 114, 101], -3, 1, 1, -1, 1⟩,
  ⟨[115, 105, 115, 109, 101, 109, 98, 101, 114], 3, 0, 1, 1, 1⟩,
  ⟨[115, 109, 101, 109, 98, 101, 114, 115], 2, 0, 1, 1, 1⟩,
  ⟨[115, 109, 105, 115, 109, 101, 109, 98, 101, 114], -3, 0, 1, 1, 1⟩,
  ⟨[115, 109, 111, 118, 101], 4, 1, 1, 2, 1⟩,
  ⟨[115, 112, 111, 112], -2, 1, 1, 1, 1⟩,
  ⟨[115, 114, 101, 109], -3, 1, 1, 1, 1⟩,
  ⟨[115, 115, 99, 97, 110], -3, 0, 1, 1, 1⟩,
  ⟨[115, 117, 110, 105, 111, 110], -2, 0, 1, -1, 1⟩,
  ⟨[115, 117, 110, 105, 111, 110, 115, 116, 111, 114, 101], -3, 1, 1, -1, 1⟩]
def scoreRows : List Rw := [
  ⟨[122, 97, 100, 100], -4, 1, 1, 1, 1⟩,
  ⟨[122, 99, 97, 114, 100], 2, 0, 1, 1, 1⟩,
  ⟨[122, 99, 111, 117, 110, 116], 4, 0, 1, 1, 1⟩,
  ⟨[122, 105, 110, 99, 114, 98, 121], 4, 1, 1, 1, 1⟩,
  ⟨[122, 108, 101, 120, 99, 111, 117, 110, 116], 4, 0, 1, 1, 1⟩,
  ⟨[122, 109, 115, 99, 111, 114, 101], -3, 0, 1, 1, 1⟩,
  ⟨[122, 112, 111, 112, 109, 97, 120], -2, 1, 1, 1, 1⟩,
  ⟨[122, 112, 111, 112, 109, 105, 110], -2, 1, 1, 1, 1⟩,
  ⟨[122, 114, 97, 110, 103, 101], -4, 0, 1, 1, 1⟩,
  ⟨[122, 114, 97, 110, 107], 3, 0, 1, 1, 1⟩,
  ⟨[122, 114, 101, 109], -3, 1, 1, 1, 1⟩,
  ⟨[122, 114, 101, 109, 114, 97, 110, 103, 101, 98, 121, 108, 101, 120], 4, 1, 1, 1, 1⟩,
  ⟨[122, 114, 101, 109, 114, 97, 110, 103, 101, 98, 121, 114, 97, 110, 107], 4, 1, 1, 1, 1⟩,
  ⟨[122, 114, 101, 109, 114, 97, 110, 103, 101, 98, 121, 115, 99, 111, 114, 101], 4, 1, 1, 1, 1⟩,
  ⟨[122, 114, 101, 118, 114, 97, 110, 107], 3, 0, 1, 1, 1⟩,
  ⟨[122, 115, 99, 97, 110], -3, 0, 1, 1, 1⟩,
  ⟨[122, 115, 99, 111, 114, 101], 3, 0, 1, 1, 1⟩]
def docRows : List Sc := [
  ⟨[97, 112, 112, 101, 110, 100], 3, true, false, 1, 1, 1⟩,
  ⟨[98, 105, 116, 99, 111, 117, 110, 116], -2, false, false, 1, 1, 1⟩,
  ⟨[98, 105, 116, 111, 112], -4, true, false, 2, -1, 1⟩,
  ⟨[98, 105, 116, 112, 111, 115], -3, false, false, 1, 1, 1⟩,
  ⟨[99, 111, 112, 121], -3, true, false, 1, 2, 1⟩,
  ⟨[100, 98, 115, 105, 122, 101], 1, false, false, 0, 0, 0⟩,
  ⟨[100, 101, 99, 114], 2, true, false, 1, 1, 1⟩,
  ⟨[100, 101, 99, 114, 98, 121], 3, true, false, 1, 1, 1⟩,
  ⟨[100, 101, 108], -2, true, false, 1, -1, 1⟩,
  ⟨[100, 105, 115, 99, 97, 114, 100], 1, false, true, 0, 0, 0⟩,
  ⟨[100, 117, 109, 112], 2, false, false, 1, 1, 1⟩,
  ⟨[101, 99, 104, 111], 2, false, false, 0, 0, 0⟩,
  ⟨[101, 120, 101, 99], 1, false, true, 0, 0, 0⟩,
  ⟨[101, 120, 105, 115, 116, 115], -2, false, false, 1, -1, 1⟩,
  ⟨[101, 120, 112, 105, 114, 101], -3, true, false, 1, 1, 1⟩,
  ⟨[101, 120, 112, 105, 114, 101, 97, 116], -3, true, false, 1, 1, 1⟩,
  ⟨[101, 120, 112, 105, 114, 101, 116, 105, 109, 101], 2, false, false, 1, 1, 1⟩,
  ⟨[102, 108, 117, 115, 104, 97, 108, 108], 1, true, false, 0, 0, 0⟩,
  ⟨[102, 108, 117, 115, 104, 100, 98], 1, true, false, 0, 0, 0⟩,
  ⟨[103, 101, 116], 2, false, false, 1, 1, 1⟩,
  ⟨[103, 101, 116, 98, 105, 116], 3, false, false, 1, 1, 1⟩,
  ⟨[103, 101, 116, 100, 101, 108], 2, true, false, 1, 1, 1⟩,
  ⟨[103, 101, 116, 101, 120], -2, true, false, 1, 1, 1⟩,
  ⟨[103, 101, 116, 114, 97, 110, 103, 101], 4, false, false, 1, 1, 1⟩,
  ⟨[103, 101, 116, 115, 101, 116], 3, true, false, 1, 1, 1⟩,
  ⟨[104, 100, 101, 108], -3, true, false, 1, 1, 1⟩,
  ⟨[104, 101, 120, 105, 115, 116, 115], 3, false, false, 1, 1, 1⟩,
  ⟨[104, 103, 101, 116], 3, false, false, 1, 1, 1⟩,
  ⟨[104, 103, 101, 116, 97, 108, 108], 2, false, false, 1, 1, 1⟩,
  ⟨[104, 105, 110, 99, 114, 98, 121], 4, true, false, 1, 1, 1⟩,
  ⟨[104, 107, 101, 121, 115], 2, false, false, 1, 1, 1⟩,
  ⟨[104, 108, 101, 110], 2, false, false, 1, 1, 1⟩,
  ⟨[104, 109, 103, 101, 116], -3, false, false, 1, 1, 1⟩,
  ⟨[104, 109, 115, 101, 116], -4, true, false, 1, 1, 1⟩,
  ⟨[104, 115, 99, 97, 110], -3, false, false, 1, 1, 1⟩,
  ⟨[104, 115, 101, 116], -4, true, false, 1, 1, 1⟩,
  ⟨[104, 115, 101, 116, 110, 120], 4, true, false, 1, 1, 1⟩,
  ⟨[104, 115, 116, 114, 108, 101, 110], 3, false, false, 1, 1, 1⟩,
  ⟨[104, 118, 97, 108, 115], 2, false, false, 1, 1, 1⟩,
  ⟨[105, 110, 99, 114], 2, true, false, 1, 1, 1⟩,
  ⟨[105, 110, 99, 114, 98, 121], 3, true, false, 1, 1, 1⟩,
  ⟨[107, 101, 121, 115], 2, false, false, 0, 0, 0⟩,
  ⟨[108, 105, 110, 100, 101, 120], 3, false, false, 1, 1, 1⟩,
  ⟨[108, 105, 110, 115, 101, 114, 116], 5, true, false, 1, 1, 1⟩,
  ⟨[108, 108, 101, 110], 2, false, false, 1, 1, 1⟩,
  ⟨[108, 109, 111, 118, 101], 5, true, false, 1, 2, 1⟩,
  ⟨[108, 112, 111, 112], -2, true, false, 1, 1, 1⟩,
  ⟨[108, 112, 111, 115], -3, false, false, 1, 1, 1⟩,
  ⟨[108, 112, 117, 115, 104], -3, true, false, 1, 1, 1⟩,
  ⟨[108, 112, 117, 115, 104, 120], -3, true, false, 1, 1, 1⟩,
  ⟨[108, 114, 97, 110, 103, 101], 4, false, false, 1, 1, 1⟩,
  ⟨[108, 114, 101, 109], 4, true, false, 1, 1, 1⟩,
  ⟨[108, 115, 101, 116], 4, true, false, 1, 1, 1⟩,
  ⟨[108, 116, 114, 105, 109], 4, true, false, 1, 1, 1⟩,
  ⟨[109, 103, 101, 116], -2, false, false, 1, -1, 1⟩,
  ⟨[109, 115, 101, 116], -3, true, false, 1, -1, 2⟩,
  ⟨[109, 115, 101, 116, 110, 120], -3, true, false, 1, -1, 2⟩,
  ⟨[109, 117, 108, 116, 105], 1, false, true, 0, 0, 0⟩,
  ⟨[112, 101, 114, 115, 105, 115, 116], 2, true, false, 1, 1, 1⟩,
  ⟨[112, 101, 120, 112, 105, 114, 101], -3, true, false, 1, 1, 1⟩,
  ⟨[112, 101, 120, 112, 105, 114, 101, 97, 116], -3, true, false, 1, 1, 1⟩,
  ⟨[112, 101, 120, 112, 105, 114, 101, 116, 105, 109, 101], 2, false, false, 1, 1, 1⟩,
  ⟨[112, 105, 110, 103], -1, false, false, 0, 0, 0⟩,
  ⟨[112, 115, 101, 116, 101, 120], 4, true, false, 1, 1, 1⟩,
  ⟨[112, 116, 116, 108], 2, false, false, 1, 1, 1⟩,
  ⟨[113, 117, 105, 116], 1, false, true, 0, 0, 0⟩,
  ⟨[114, 101, 110, 97, 109, 101], 3, true, false, 1, 2, 1⟩,
  ⟨[114, 101, 110, 97, 109, 101, 110, 120], 3, true, false, 1, 2, 1⟩,
  ⟨[114, 101, 115, 101, 116], 1, false, true, 0, 0, 0⟩,
  ⟨[114, 101, 115, 116, 111, 114, 101], -4, true, false, 1, 1, 1⟩,
  ⟨[114, 112, 111, 112], -2, true, false, 1, 1, 1⟩,
  ⟨[114, 112, 111, 112, 108, 112, 117, 115, 104], 3, true, false, 1, 2, 1⟩,
  ⟨[114, 112, 117, 115, 104], -3, true, false, 1, 1, 1⟩,
  ⟨[114, 112, 117, 115, 104, 120], -3, true, false, 1, 1, 1⟩,
  ⟨[115, 97, 100, 100], -3, true, false, 1, 1, 1⟩,
  ⟨[115, 99, 97, 110], -2, false, false, 0, 0, 0⟩,
  ⟨[115, 99, 97, 114, 100], 2, false, false, 1, 1, 1⟩,
  ⟨[115, 100, 105, 102, 102], -2, false, false, 1, -1, 1⟩,
  ⟨[115, 100, 105, 102, 102, 115, 116, 111, 114, 101], -3, true, false, 1, -1, 1⟩,
  ⟨[115, 101, 116], -3, true, false, 1, 1, 1⟩,
  ⟨[115, 101, 116, 98, 105, 116], 4, true, false, 1, 1, 1⟩,
  ⟨[115, 101, 116, 101, 120], 4, true, false, 1, 1, 1⟩,
  ⟨[115, 101, 116, 110, 120], 3, true, false, 1, 1, 1⟩,
  ⟨[115, 101, 116, 114, 97, 110, 103, 101], 4, true, false, 1, 1, 1⟩,
  ⟨[115, 105, 110, 116, 101, 114], -2, false, false, 1, -1, 1⟩,
  ⟨[115, 105, 110, 116, 101, 114, 115, 116, 111, 114, 101], -3, true, false, 1, -1, 1⟩,
  ⟨[115, 105, 115, 109, 101, 109, 98, 101, 114], 3, false, false, 1, 1, 1⟩,
  ⟨[115, 109, 101, 109, 98, 101, 114, 115], 2, false, false, 1, 1, 1⟩,
  ⟨[115, 109, 105, 115, 109, 101, 109, 98, 101, 114], -3, false, false, 1, 1, 1⟩,
  ⟨[115, 109, 111, 118, 101], 4, true, false, 1, 2, 1⟩,
  ⟨[115, 112, 111, 112], -2, true, false, 1, 1, 1⟩,
  ⟨[115, 114, 101, 109], -3, true, false, 1, 1, 1⟩,
  ⟨[115, 115, 99, 97, 110], -3, false, false, 1, 1, 1⟩,
  ⟨[115, 116, 114, 108, 101, 110], 2, false, false, 1, 1, 1⟩,
  ⟨[115, 117, 110, 105, 111, 110], -2, false, false, 1, -1, 1⟩,
  ⟨[115, 117, 110, 105, 111, 110, 115, 116, 111, 114, 101], -3, true, false, 1, -1, 1⟩,
  ⟨[116, 116, 108], 2, false, false, 1, 1, 1⟩,
  ⟨[116, 121, 112, 101], 2, false, false, 1, 1, 1⟩,
  ⟨[117, 110, 108, 105, 110, 107], -2, true, false, 1, -1, 1⟩,
  ⟨[117, 110, 119, 97, 116, 99, 104], 1, false, true, 0, 0, 0⟩,
  ⟨[119, 97, 116, 99, 104], -2, false, true, 1, -1, 1⟩,
  ⟨[122, 97, 100, 100], -4, true, false, 1, 1, 1⟩,
  ⟨[122, 99, 97, 114, 100], 2, false, false, 1, 1, 1⟩,
  ⟨[122, 99, 111, 117, 110, 116], 4, false, false, 1, 1, 1⟩,
  ⟨[122, 105, 110, 99, 114, 98, 121], 4, true, false, 1, 1, 1⟩,
  ⟨[122, 108, 101, 120, 99, 111, 117, 110, 116], 4, false, false, 1, 1, 1⟩,
  ⟨[122, 109, 115, 99, 111, 114, 101], -3, false, false, 1, 1, 1⟩,
  ⟨[122, 112, 111, 112, 109, 97, 120], -2, true, false, 1, 1, 1⟩,
  ⟨[122, 112, 111, 112, 109, 105, 110], -2, true, false, 1, 1, 1⟩,
  ⟨[122, 114, 97, 110, 103, 101], -4, false, false, 1, 1, 1⟩,
  ⟨[122, 114, 97, 110, 107], 3, false, false, 1, 1, 1⟩,
  ⟨[122, 114, 101, 109], -3, true, false, 1, 1, 1⟩,
  ⟨[122, 114, 101, 109, 114, 97, 110, 103, 101, 98, 121, 108, 101, 120], 4, true, false, 1, 1, 1⟩,
  ⟨[122, 114, 101, 109, 114, 97, 110, 103, 101, 98, 121, 114, 97, 110, 107], 4, true, false, 1, 1, 1⟩,
  ⟨[122, 114, 101, 109, 114, 97, 110, 103, 101, 98, 121, 115, 99, 111, 114, 101], 4, true, false, 1, 1, 1⟩,
  ⟨[122, 114, 101, 118, 114, 97, 110, 107], 3, false, false, 1, 1, 1⟩,
  ⟨[122, 115, 99, 97, 110], -3, false, false, 1, 1, 1⟩,
  ⟨[122, 115, 99, 111, 114, 101], 3, false, false, 1, 1, 1⟩]
def allRows : List Rw := controlRows ++ stringRows ++ keyRows ++ listRows ++ hashRows ++ setRows ++ scoreRows
def findR (s : Bs) : Option Rw := allRows.find? (fun r => r.name == s)
def findS (s : Bs) : Option Sc := docRows.find? (fun r => r.name == s)
theorem all_len : allRows.length = 118 := by decide +kernel
theorem doc_len : docRows.length = 118 := by decide +kernel
def names : List Bs := docRows.map (·.name)
theorem names_ok : names.all (fun s => decide ((findR s).map spec = findS s)) = true := by decide +kernel
theorem all_in : allRows.all (fun r => names.contains r.name) = true := by decide +kernel
theorem find_same (s : Bs) : (findR s).map spec = findS s := by
  by_cases h : s ∈ names
  · exact of_decide_eq_true (List.all_eq_true.1 names_ok s h)
  · have h1 : findR s = none := by
      unfold findR
      rw [List.find?_eq_none]
      intro r hr e
      have := List.all_eq_true.1 all_in r hr
      rw [List.contains_iff_mem] at this
      rw [eq_of_beq e] at this
      exact h this
    have h2 : findS s = none := by
      unfold findS
      rw [List.find?_eq_none]
      intro r hr e
      exact h (List.mem_map.2 ⟨r, hr, eq_of_beq e⟩)
    rw [h1, h2]
    rfl
def okB (r : Sc) : Bool := decide (-5 ≤ r.arity ∧ r.arity ≤ 5 ∧ r.arity ≠ 0 ∧ 0 ≤ r.first ∧ r.first ≤ 2 ∧ -1 ≤ r.last ∧ r.last ≤ 2 ∧ 0 ≤ r.step ∧ r.step ≤ 2 ∧ r.name.length ≤ 32 ∧ 0 < r.name.length)
theorem doc_ok : docRows.all okB = true := by decide +kernel
theorem all_ok : allRows.all (fun r => okB (spec r)) = true := by decide +kernel
end Go.Proofs.YtiofnocmibjepaaGreatDoor.Tab
end
section
namespace Go.Proofs.YtiofnocmibjepaaGreatDoor.Run
open Go Go.RowKit
set_option linter.unusedVariables false
set_option linter.unusedSimpArgs false
def runTo (P : Program) (ops : Array Oper) : List Oper → Act → World → Option (Act × World)
  | [], a, w => some (a, w)
  | o :: r, a, w =>
    if Region.wanted o (yielded ops a.tmps) then
      match (execOp a.eval o).run P w with
      | .ok (.value v) w' => runTo P ops r (a.put o.dst v) w'
      | _ => none
    else runTo P ops r (a.put o.dst undef) w
theorem wpList_run {P : Program} {ops : Array Oper} {Q : Exit → Act → World → Prop} : ∀ (l r : List Oper) {a a' : Act} {w w' : World}, runTo P ops l a w = some (a', w') → wpList P ops Q r a' w' → wpList P ops Q (l ++ r) a w
  | [], r, a, a', w, w', h, k => by
    simp only [runTo, Option.some.injEq, Prod.mk.injEq] at h
    obtain ⟨rfl, rfl⟩ := h
    exact k
  | o :: l, r, a, a', w, w', h, k => by
    unfold runTo at h
    show wpList P ops Q (o :: (l ++ r)) a w
    unfold wpList
    split at h
    · rename_i hw
      rw [if_pos hw]
      refine .inl ?_
      unfold Oper.wp
      split at h
      · rename_i v w1 e
        rw [e]
        exact wpList_run l r h k
      · cases h
    · rename_i hw
      rw [if_neg hw]
      exact wpList_run l r h k
theorem wp_run {P : Program} {Q : Exit → Act → World → Prop} {id : Nat} {l r : List Oper} {a a' : Act} {w w' : World} (h : runTo P (l ++ r).toArray l a w = some (a', w')) (k : wpList P (l ++ r).toArray Q r a' w') : (Code.region id (l ++ r).toArray false).wp P Q a w :=
  wp_region_lit (wpList_run l r h k)
def runRet (P : Program) : Code → Act → World → Option (Act × World)
  | .seq (.region _ ops false) y, a, w =>
    match runTo P ops ops.toList a w with
    | some (a', w') => runRet P y a' w'
    | none => none
  | .ret, a, w => some (a, w)
  | _, _, _ => none
theorem wp_ret_run {P : Program} {Q : Exit → Act → World → Prop} : ∀ (c : Code) {a a' : Act} {w w' : World}, runRet P c a w = some (a', w') → Q .ret a' w' → c.wp P Q a w := by
  intro c a a' w w' h k
  induction c generalizing a w with
  | ret =>
    simp only [runRet, Option.some.injEq, Prod.mk.injEq] at h
    obtain ⟨rfl, rfl⟩ := h
    exact wp_ret k
  | seq x y _ ih =>
    cases x with
    | region id ops d =>
      cases d with
      | true => simp [runRet] at h
      | false =>
        simp only [runRet] at h
        split at h
        · rename_i a1 w1 e
          refine wp_seq (wp_region_list ?_)
          have := wpList_run (P := P) (ops := ops) (Q := Exit.then (y.wp P Q) Q) ops.toList [] e (ih h)
          rwa [List.append_nil] at this
        · cases h
    | _ => simp [runRet] at h
  | _ => simp [runRet] at h
theorem calls_run {P : Program} {f : FuncId} {fn : Func} {c : Code} {args : Array Value} {w w' : World} {a' : Act} {v : Value} {R : Ending → World → Prop} (hf : P.funcs[f]? = some fn) (hb : fn.body = some c)
    (h : runRet P c { tmps := args ++ Array.replicate (fn.ntmps - args.size) undef, defers := [] } w = some (a', w')) (hd : a'.defers = []) (hr : (results fn a'.tmps).run P w' = .ok v w') (hR : R (.returned v) w') : Calls P f args w R :=
  calls_of_wp hf hb (wp_ret_run c h ⟨hd, v, hr, hR⟩)
end Go.Proofs.YtiofnocmibjepaaGreatDoor.Run
end
section
namespace Go.Proofs.YtiofnocmibjepaaGreatDoor.Lit
open Go Go.RowKit
open Go.Proofs.YtiofnocmibjepaaGreatDoor.Run
set_option linter.unusedVariables false
set_option linter.unusedSimpArgs false
noncomputable def opsOf (c : Code) (k : Nat) : List Oper := match c, k with
  | .seq (.region _ ops _) _, 0 => ops.toList
  | .seq _ y, k + 1 => opsOf y k
  | _, _ => []
noncomputable def ops (f : Func) (k : Nat) : List Oper := opsOf (f.body.getD .skip) k
noncomputable def operNo (f : Func) (k i : Nat) : Oper := ((ops f k).drop i).headD { dst := none, op := .assign (.const undef), type := 0, pos := "", after := #[], guard := none }
def parts (n d : Nat) : List (Nat × Operand) := (List.range n).map fun i => (i, Operand.tmp (i + d))
theorem lit_wp {P : Program} {id0 id1 : Nat} {O0 O1 rest : List Oper} {o : Oper} {c : Code} {Q : Exit → Act → World → Prop} {a0 a1 a2 : Act} {w : World}
    (h0 : runTo P O0.toArray O0 a0 w = some (a1, w)) (h1 : runTo P (O1 ++ o :: rest).toArray O1 a1 w = some (a2, w)) (hg : o.guard = none) (t e : TypeId) (n d sz : Nat) (vs : List Value)
    (ho : o.op = .buildSlice t n (parts n d).toArray) (hu : P.underlying t = some (.slice e)) (hi : (P.info? e).map (fun i => (i.zero.map (·.cells.size), i.size)) = some (some sz, sz))
    (hn : vs.length = n) (hp : 0 < n) (hs : 0 < sz) (hsm : n * sz ≤ 2 ^ 24) (hv : vs.all (fun v => v.cells.size == sz) = true)
    (he : (parts n d).map (fun x => (x.1, a2.eval x.2)) = (vs.zipIdx 0).map fun x => (x.2, x.1))
    (h : wpList P (O1 ++ o :: rest).toArray (Exit.then (c.wp P Q) Q) rest (a2.put o.dst (.slice (some ⟨w.heap.size, 0, none⟩) n n)) (w.alloc (.cells (vs.flatMap fun v => v.cells.toList).toArray e))) :
    (Code.seq (.region id0 O0.toArray false) (.seq (.region id1 (O1 ++ o :: rest).toArray false) c)).wp P Q a0 w := by
  refine wp_seq (wp_region_lit ?_)
  have q0 := wpList_run (P := P) (ops := O0.toArray) (Q := Exit.then ((Code.seq (.region id1 (O1 ++ o :: rest).toArray false) c).wp P Q) Q) O0 [] h0
  rw [List.append_nil] at q0
  refine q0 (wp_seq (wp_region_lit (wpList_run O1 (o :: rest) h1 ?_)))
  cases hie : P.info? e with
  | none => simp [hie] at hi
  | some ie =>
    simp only [hie, Option.map_some, Option.some.injEq, Prod.mk.injEq] at hi
    obtain ⟨hz, hsz⟩ := hi
    cases hzz : ie.zero with
    | none => simp [hzz] at hz
    | some z =>
      refine wpList_buildSlice hg t e n _ ho _ ie z hu hie hzz (by rw [hsz]; omega) ?_ ?_ h
      · rw [hsz]
        have := Nat.mul_pos hp hs
        omega
      · rw [Array.toList_map]
        show Instr.fill _ _ ((parts n d).map fun x => (x.1, a2.eval x.2)) = _
        rw [he, hsz]
        refine Great.fill_whole hs vs _ (fun v hv' => ?_) (by simp [hn])
        exact eq_of_beq (List.all_eq_true.1 hv v hv')
end Go.Proofs.YtiofnocmibjepaaGreatDoor.Lit
end
