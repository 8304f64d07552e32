/- TableWays: what stands in memory all along. -/
import Derived.Test.YtgmnmcaclpfknaaWaysM
import Derived.Test.YtgmnmcaclpfknaaLaws
import Derived.Test.YtgmnmcaclpfknaaLawR
import Derived.Test.YtgmnmcaclpfknaaLawK
namespace Go.Proofs.Ytgmnmcaclpfknaa.WaysP
open Go.RowKit
open Go.Proofs.Ytgmnmcaclpfknaa.Tab
open Go.Proofs.Ytgmnmcaclpfknaa.Base
open Go.Proofs.Ytgmnmcaclpfknaa.Low
open Go.Proofs.Ytgmnmcaclpfknaa.WaysM
open Go.Proofs.Ytgmnmcaclpfknaa.RowsL (valS cellsS)
set_option linter.unusedVariables false
set_option linter.unusedSimpArgs false
structure Wy (w : World) (R Bu Ba : Nat) (r : Sc) (U : Tab.Bs) (W : World) : Prop where
  bel : Below w.heap.size w W
  box : W.heap[R]? = some (.cells (cellsS r).toArray 23 (0, 0))
  up : BRow W Bu U
  lt : R < Ba ∧ Bu < Ba ∧ w.heap.size ≤ Ba
  size : Ba ≤ W.heap.size
theorem brow_keep {W W' : World} {B : Nat} {l : List UInt8} (h : BRow W B l) (hk : W'.heap[B]? = W.heap[B]?) : BRow W' B l := by
  obtain ⟨C, N, h1, r⟩ := h
  exact ⟨C, N, hk.trans h1, r⟩
theorem Wy.low {w W W' : World} {R Bu Ba : Nat} {r : Sc} {U : Tab.Bs} (h : Wy w R Bu Ba r U W) (b : Below Ba W W') : Wy w R Bu Ba r U W' :=
  ⟨h.bel.trans (b.mono h.lt.2.2), (b.block _ h.lt.1).trans h.box, brow_keep h.up (b.block _ h.lt.2.1), h.lt, Nat.le_trans h.size b.size⟩
theorem Wy.drewN {w W : World} {R Bu Ba : Nat} {r : Sc} {U : Tab.Bs} (h : Wy w R Bu Ba r U W) (n : Nat) : Wy w R Bu Ba r U (W.drewN n) :=
  ⟨⟨h.bel.os, h.bel.tape, h.bel.output, h.bel.size, h.bel.block⟩, h.box, brow_keep h.up rfl, h.lt, h.size⟩
theorem sub32 (c : UInt8) : IntKind.u8.wrap ((c.toNat : Int) - 32) = ((c - 32).toNat : Int) := by
  have h : (c - 32).toNat = (c.toNat + 224) % 256 := by
    have := UInt8.toNat_sub c 32
    rw [this]
    simp
    omega
  rw [h]
  unfold IntKind.wrap
  simp [IntKind.signed, IntKind.bits]
  omega
end Go.Proofs.Ytgmnmcaclpfknaa.WaysP
