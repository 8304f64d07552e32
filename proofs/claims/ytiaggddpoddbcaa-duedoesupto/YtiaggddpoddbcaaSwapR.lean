/- Raw: Swap of an index's row over texts. -/
import Derived.Test.YtiaggddpoddbcaaRowB
import Derived.BigRegion
namespace Go.Proofs.Ytiaggddpoddbcaa.SwapR
open Go.RowKit Go.Maps
open Go.Proofs.Ytiaggddpoddbcaa.HeapMath
open Go.Proofs.Ytiaggddpoddbcaa.Heap
open Go.Proofs.Ytiaggddpoddbcaa.Turn
open Go.Proofs.Ytiaggddpoddbcaa.Before
open Go.Proofs.Ytiaggddpoddbcaa.Spots
open Go.Proofs.Ytiaggddpoddbcaa.RowB
set_option linter.unusedVariables false
set_option linter.unusedSimpArgs false
set_option maxHeartbeats 4000000 in
set_option maxRecDepth 100000 in
theorem swap_raw (b g n c i j : Nat) (w W1 W2 W3 : World) (ki kj : ByteArray) (ti tj : Int) (hi : i < n) (hj : j < n) (hn : n < 1099511627776) (mb : Option Nat) (hbg : b ≠ g) (hij : i ≠ j)
    (c0 : w.cell? ⟨b, 0, none⟩ = some (.slice (some ⟨g, 0, none⟩) n c)) 
    (i0 : w.cell? ⟨g, i * 2, none⟩ = some (.string ki)) (i1 : w.cell? ⟨g, i * 2 + 1, none⟩ = some (.int .i64 ti)) (j0 : w.cell? ⟨g, j * 2, none⟩ = some (.string kj)) (j1 : w.cell? ⟨g, j * 2 + 1, none⟩ = some (.int .i64 tj))
    (fi0 : w.frozen? ⟨g, i * 2, none⟩ = false) (fi1 : w.frozen? ⟨g, i * 2 + 1, none⟩ = false) (fj0 : w.frozen? ⟨g, j * 2, none⟩ = false) (fj1 : w.frozen? ⟨g, j * 2 + 1, none⟩ = false)
    (HW : Hid (((((w.setCell ⟨g, i * 2, none⟩ (.string kj)).setCell ⟨g, i * 2 + 1, none⟩ (.int .i64 tj)).setCell ⟨g, j * 2, none⟩ (.string ki)).setCell ⟨g, j * 2 + 1, none⟩ (.int .i64 ti)).drew = W1))
    (H1 : Hid (W1.cell? ⟨b, 0, none⟩ = some (.slice (some ⟨g, 0, none⟩) n c) ∧ W1.cell? ⟨b, 1, none⟩ = some (.map mb) ∧ W1.cell? ⟨g, i * 2, none⟩ = some (.string kj) ∧ (Instr.mapUpdate 69 (.map mb) (.string kj) (.int .i64 (i : Int))).run Try.prog W1.drew = .ok () W2))
    (H2 : Hid (W2.cell? ⟨b, 0, none⟩ = some (.slice (some ⟨g, 0, none⟩) n c) ∧ W2.cell? ⟨b, 1, none⟩ = some (.map mb) ∧ W2.cell? ⟨g, j * 2, none⟩ = some (.string ki) ∧ (Instr.mapUpdate 69 (.map mb) (.string ki) (.int .i64 (j : Int))).run Try.prog W2.drew = .ok () W3)) : Calls Try.prog 84 #[.pointer (some ⟨b, 0, none⟩), .int .i64 (i : Int), .int .i64 (j : Int)] w fun e w' => e = .returned (.tuple #[]) ∧ w' = W3 := by
  go_enter Try.func84, Try.ntmps84
  go_wp2_with fail
  go_region
  rw [HW.out]
  clear c0 i0 i1 j0 j1 fi0 fi1 fj0 fj1 HW
  obtain ⟨c0, c1, i0, hu⟩ := H1.out
  go_wp2_with fail
  go_region
  clear c0 c1 i0 hu
  obtain ⟨c0, c1, j0, hu⟩ := H2.out
  go_wp2_with fail
  go_region
  go_end0
  exact ⟨rfl, rfl⟩
set_option maxHeartbeats 4000000 in
set_option maxRecDepth 100000 in
theorem swap_raw1 (b g n c i : Nat) (w W1 W2 W3 : World) (ki : ByteArray) (ti : Int) (hi : i < n) (hn : n < 1099511627776) (mb : Option Nat) (hbg : b ≠ g)
    (c0 : w.cell? ⟨b, 0, none⟩ = some (.slice (some ⟨g, 0, none⟩) n c)) 
    (i0 : w.cell? ⟨g, i * 2, none⟩ = some (.string ki)) (i1 : w.cell? ⟨g, i * 2 + 1, none⟩ = some (.int .i64 ti))
    (fi0 : w.frozen? ⟨g, i * 2, none⟩ = false) (fi1 : w.frozen? ⟨g, i * 2 + 1, none⟩ = false)
    (q0 : (w.setCell ⟨g, i * 2, none⟩ (.string ki)).cell? ⟨g, i * 2, none⟩ = some (.string ki)) (q1 : (w.setCell ⟨g, i * 2 + 1, none⟩ (.int .i64 ti)).cell? ⟨g, i * 2 + 1, none⟩ = some (.int .i64 ti))
    (HW : Hid (((((w.setCell ⟨g, i * 2, none⟩ (.string ki)).setCell ⟨g, i * 2 + 1, none⟩ (.int .i64 ti)).setCell ⟨g, i * 2, none⟩ (.string ki)).setCell ⟨g, i * 2 + 1, none⟩ (.int .i64 ti)).drew = W1))
    (H1 : Hid (W1.cell? ⟨b, 0, none⟩ = some (.slice (some ⟨g, 0, none⟩) n c) ∧ W1.cell? ⟨b, 1, none⟩ = some (.map mb) ∧ W1.cell? ⟨g, i * 2, none⟩ = some (.string ki) ∧ (Instr.mapUpdate 69 (.map mb) (.string ki) (.int .i64 (i : Int))).run Try.prog W1.drew = .ok () W2))
    (H2 : Hid (W2.cell? ⟨b, 0, none⟩ = some (.slice (some ⟨g, 0, none⟩) n c) ∧ W2.cell? ⟨b, 1, none⟩ = some (.map mb) ∧ W2.cell? ⟨g, i * 2, none⟩ = some (.string ki) ∧ (Instr.mapUpdate 69 (.map mb) (.string ki) (.int .i64 (i : Int))).run Try.prog W2.drew = .ok () W3)) : Calls Try.prog 84 #[.pointer (some ⟨b, 0, none⟩), .int .i64 (i : Int), .int .i64 (i : Int)] w fun e w' => e = .returned (.tuple #[]) ∧ w' = W3 := by
  go_enter Try.func84, Try.ntmps84
  go_wp2_with fail
  go_region
  rw [HW.out]
  clear c0 i0 i1 fi0 fi1 HW
  obtain ⟨c0, c1, i0, hu⟩ := H1.out
  go_wp2_with fail
  go_region
  clear c0 c1 i0 hu
  obtain ⟨c0, c1, j0, hu⟩ := H2.out
  go_wp2_with fail
  go_region
  go_end0
  exact ⟨rfl, rfl⟩
end Go.Proofs.Ytiaggddpoddbcaa.SwapR
