/- The contracts of num.Print and of the document's own Print: a number's one text; old memory stands. -/
import Derived.Test.YtighoelipihifabGreatDoorRows
import Derived.Test.YtighoelipihifabGreatDoorTextMath
import Derived.Test.YtighoelipihifabGreatDoorShelf
import Derived.Lib.SlBytesRow
import Derived.WalkKit
import Derived.WalkSmall
import Derived.Below
namespace Go.Proofs.YtighoelipihifabGreatDoor.Print
open Go.RowKit
open Go.Lib (decDigits itoa)
open Go.Proofs.YtighoelipihifabGreatDoor.TextMath
set_option linter.unusedVariables false

theorem hid_of {p : Prop} (h : p) : Hid p := h
theorem bel {B : Nat} {a b c : World} (h : Below B a b) (k : Below b.heap.size b c) (hB : B ≤ a.heap.size) : Below B a c := h.trans (k.mono (Nat.le_trans hB h.size))
theorem below_grow (w : World) (k : Nat) (os : Array Obj) : Below w.heap.size w (Sort.grow (w.drewN k) os) :=
  ⟨rfl, rfl, rfl, by simp [Sort.grow], fun j hj => by simp [Sort.grow, Array.getElem?_append, hj]⟩
theorem ret_s {a b : ByteArray} (h : a = b) : Ending.returned (.string a) = .returned (.string b) := by rw [h]

/-- the table of powers is there -/
def Tab (w : World) : Prop := Lib.TabIs Tryz.prog w "internal/strconv.uint64pow10" .u64 Lib.pow10Tab

set_option maxHeartbeats 400000 in
theorem print_any (n : Int) (w : World) (h : InI n) (ht : Tab w) :
    Calls Tryz.prog 70 #[.int .i64 n] w fun e w' => e = .returned (.string ⟨(itoa n).toArray⟩) ∧ Below w.heap.size w w' := by
  have HT := hid_of ht
  have H := hid_of h
  clear ht h
  go_enter Tryz.func70, Tryz.ntmps70
  go_wp2_with fail
  refine (Tryz.strconv_Itoa n H.out.1 H.out.2 _ HT.out).mono ?_
  rintro e w' ⟨rfl, k, os, rfl⟩
  have hb := below_grow w k os
  generalize Sort.grow (w.drewN k) os = w' at *
  go_wp2
  go_ret
  exact ⟨rfl, hb⟩

end Go.Proofs.YtighoelipihifabGreatDoor.Print
