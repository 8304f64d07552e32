/- Check of the program. -/
import Derived.Test.YtgmnmcaclpfknaaRowOf
import Derived.BigRegion
namespace Go.Proofs.Ytgmnmcaclpfknaa.Chk
open Go.RowKit
open Go.Proofs.Ytgmnmcaclpfknaa.Tab
open Go.Proofs.Ytgmnmcaclpfknaa.Base
open Go.Proofs.Ytgmnmcaclpfknaa.Low
open Go.Proofs.Ytgmnmcaclpfknaa.FindP
open Go.Proofs.Ytgmnmcaclpfknaa.FindC
open Go.Proofs.Ytgmnmcaclpfknaa.RowOf
open Go.Proofs.Ytgmnmcaclpfknaa.RowsL (valS cellsS)
attribute [local go_sem] Oper.semAt_some
set_option linter.unusedVariables false
set_option linter.unusedSimpArgs false
set_option maxRecDepth 100000 in
theorem check_call {G : Nat → Prop} {w : World} {v : Value} {l : List Tab.Bs} (h : SL G w v l) (hl : l.length < 9223372036854775808) (hb : ∀ x ∈ l, x.length < 9223372036854775808) :
    Calls Try.prog 15 #[v] w fun e w' => e = .returned (.string (mk (checkS l))) ∧ Below w.heap.size w w' := by
  have HR := hid_of (rowOf_call h hl hb)
  unfold rowV valS cellsS at HR
  have HC : Hid (checkS l = (rowS l).2) := hid_of rfl
  rw [HC.out]
  obtain ⟨a, c, rfl, _⟩ := h
  clear hb hl
  generalize (rowS l).1 = r at *
  generalize (rowS l).2 = x at *
  go_enter Try.func15, Try.ntmps15
  go_wp2_with fail
  refine HR.out.mono ?_
  rintro e w1 ⟨rfl, b1⟩
  have HB := hid_of b1
  clear b1
  go_wp2_with fail
  go_ret
  exact ⟨rfl, HB.out.alloc HB.out.size _⟩
end Go.Proofs.Ytgmnmcaclpfknaa.Chk
