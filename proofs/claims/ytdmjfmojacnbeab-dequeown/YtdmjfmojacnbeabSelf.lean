/- isItself over numbers. -/
import Derived.Test.YtdmjfmojacnbeabBase
import Derived.Recover
import Derived.Defers
namespace Go.Proofs.Ytdmjfmojacnbeab.Self
open Go.RowKit
open Go.Proofs.Ytdmjfmojacnbeab.Base
set_option linter.unusedVariables false
set_option linter.unusedSimpArgs false
theorem idle (w : World) : CallsD Try.prog 36 #[] .returning w fun e u' w' => e = .returned (.tuple #[]) ∧ u' = .returning ∧ w' = w := by
  refine callsD_of_wpS Try.func36 rfl fun c₀ cs hu => ?_
  apply wpS_region
  simp [wpOpsS, go_sem, recoverD, hu, Try.ntmps36, Exit.thenS]
  cases c₀
  simp_all [bodyPostS, results, Try.results36]
theorem self_call (x : El) (w : World) : Calls Try.prog 30 #[V x] w fun e w' => e = .returned (.bool true) ∧ w' = w := by
  have hmf : ∀ (fn : Fn) (first cap : Array Value) (w : World), (Instr.makeFunc fn first cap).run Try.prog w = .ok (.func fn first cap) w := fun _ _ _ _ => rfl
  go_enter_defers Try.func30, Try.ntmps30
  go_wp2
  refine leaves_cons (f := 36) (args := #[]) (by simp) (by simp [go_sem]) ?_
  refine (idle _).mono ?_
  rintro e u' w'' ⟨rfl, rfl, rfl⟩
  simp [Leaves, settle, results, Try.results30, go_sem]
end Go.Proofs.Ytdmjfmojacnbeab.Self
