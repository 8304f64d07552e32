/- Raw: Pop of an index's row over texts. -/
import Derived.Test.YtiaggddpoddbcaaRowB
import Derived.BigRegion
namespace Go.Proofs.Ytiaggddpoddbcaa.PopR
open Go.RowKit Go.Maps
open Go.Proofs.Ytiaggddpoddbcaa.HeapMath
open Go.Proofs.Ytiaggddpoddbcaa.Heap
open Go.Proofs.Ytiaggddpoddbcaa.Turn
open Go.Proofs.Ytiaggddpoddbcaa.Before
open Go.Proofs.Ytiaggddpoddbcaa.RowB
set_option linter.unusedVariables false
set_option linter.unusedSimpArgs false
set_option maxHeartbeats 4000000 in
set_option maxRecDepth 100000 in
theorem pop_raw (b g n c : Nat) (w W1 W2 : World) (k : ByteArray) (t : Int) (hn : n < 1099511627776) (mb : Option Nat) (hbg : b ≠ g) (hbl : b < w.heap.size) (hgl : g < w.heap.size)
    (c0 : w.cell? ⟨b, 0, none⟩ = some (.slice (some ⟨g, 0, none⟩) (n + 1) c)) (f0 : w.frozen? ⟨b, 0, none⟩ = false)
    (i0 : w.cell? ⟨g, n * 2, none⟩ = some (.string k)) (i1 : w.cell? ⟨g, n * 2 + 1, none⟩ = some (.int .i64 t))
    (fi0 : w.frozen? ⟨g, n * 2, none⟩ = false) (fi1 : w.frozen? ⟨g, n * 2 + 1, none⟩ = false)
    (hs : ∀ W, (Instr.slice 68 (.slice (some ⟨g, 0, none⟩) (n + 1) c) none (some (.int .i64 (n : Int))) none).run Try.prog W = .ok (.slice (some ⟨g, 0, none⟩) n c) W)
    (HW : Hid ((((w.setCell ⟨g, n * 2, none⟩ (.string ⟨#[]⟩)).setCell ⟨g, n * 2 + 1, none⟩ (.int .i64 0)).setCell ⟨b, 0, none⟩ (.slice (some ⟨g, 0, none⟩) n c)).alloc (.cells #[.string k, .int .i64 t] 96) = W1))
    (H1 : Hid (W1.cell? ⟨b, 1, none⟩ = some (.map mb) ∧ W1.cell? ⟨w.heap.size, 0, none⟩ = some (.string k) ∧ (Builtin.delete_ #[69, 9] 0 #[.map mb, .string k]).run Try.prog W1.drew = .ok (.tuple #[]) W2))
    (H2 : Hid (W2.cell? ⟨w.heap.size, 0, none⟩ = some (.string k) ∧ W2.cell? ⟨w.heap.size, 1, none⟩ = some (.int .i64 t))) : Calls Try.prog 82 #[.pointer (some ⟨b, 0, none⟩)] w fun e w' => e = .returned (.iface 96 (.agg #[.string k, .int .i64 t])) ∧ w' = W2 := by
  have e1 : IntKind.i64.wrap (((n + 1 : Nat) : Int) - 1) = (n : Int) := by rw [show (((n + 1 : Nat) : Int) - 1) = (n : Int) by omega]; exact IntWalk.i64_in _ (by omega)
  have e2 : (((n + 1 : Nat) : Int) - 1) = (n : Int) := by omega
  have e3 : ((n : Int) + 1 - 1) = (n : Int) := by omega
  have nb : b ≠ w.heap.size := by omega
  have ng : g ≠ w.heap.size := by omega
  go_enter Try.func82, Try.ntmps82
  go_wp2_with fail
  rw [HW.out]
  clear c0 f0 i0 i1 fi0 fi1 HW
  obtain ⟨c1, k0, hu⟩ := H1.out
  go_region
  clear c1 k0 hu
  obtain ⟨k0, k1⟩ := H2.out
  go_wp2_with fail
  go_ret
  exact ⟨rfl, rfl⟩
end Go.Proofs.Ytiaggddpoddbcaa.PopR
