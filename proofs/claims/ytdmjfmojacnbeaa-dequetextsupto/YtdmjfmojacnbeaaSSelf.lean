/- isItself over numbers. -/
import Derived.Test.YtdmjfmojacnbeaaMemA
import Derived.Recover
import Derived.Defers
namespace Go.Proofs.Ytdmjfmojacnbeaa.SSelf
open Go.RowKit
open Go.Proofs.Ytdmjfmojacnbeaa.SBase
open Go.Proofs.Ytdmjfmojacnbeaa.Base (Fr Gr ptr hid_of lt_of set_at set_ne size_set row_ne size_row add_off bel_drewN ca ca_some ca_zero cell_lt)
set_option linter.unusedVariables false
set_option linter.unusedSimpArgs false
theorem idle (w : World) : CallsD Try.prog 81 #[] .returning w fun e u' w' => e = .returned (.tuple #[]) ∧ u' = .returning ∧ w' = w := by
  refine callsD_of_wpS Try.func81 rfl fun c₀ cs hu => ?_
  apply wpS_region
  simp [wpOpsS, go_sem, recoverD, hu, Try.ntmps81, Exit.thenS]
  cases c₀
  simp_all [bodyPostS, results, Try.results81]
theorem self_call (x : El) (w : World) : Calls Try.prog 75 #[V x] w fun e w' => e = .returned (.bool true) ∧ w' = w := by
  have hmf : ∀ (fn : Fn) (first cap : Array Value) (w : World), (Instr.makeFunc fn first cap).run Try.prog w = .ok (.func fn first cap) w := fun _ _ _ _ => rfl
  go_enter_defers Try.func75, Try.ntmps75
  go_wp2
  refine leaves_cons (f := 81) (args := #[]) (by simp) (by simp [go_sem]) ?_
  refine (idle _).mono ?_
  rintro e u' w'' ⟨rfl, rfl, rfl⟩
  simp [Leaves, settle, results, Try.results75, go_sem]
end Go.Proofs.Ytdmjfmojacnbeaa.SSelf
