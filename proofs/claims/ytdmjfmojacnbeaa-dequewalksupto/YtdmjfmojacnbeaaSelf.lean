/- isItself over numbers. -/
import Derived.Test.YtdmjfmojacnbeaaBase
import Derived.Recover
import Derived.Defers
namespace Go.Proofs.Ytdmjfmojacnbeaa.Self
open Go.RowKit
open Go.Proofs.Ytdmjfmojacnbeaa.Base
set_option linter.unusedVariables false
set_option linter.unusedSimpArgs false
theorem idle (w : World) : CallsD Try.prog 79 #[] .returning w fun e u' w' => e = .returned (.tuple #[]) ∧ u' = .returning ∧ w' = w := by
  refine callsD_of_wpS Try.func79 rfl fun c₀ cs hu => ?_
  apply wpS_region
  simp [wpOpsS, go_sem, recoverD, hu, Try.ntmps79, Exit.thenS]
  cases c₀
  simp_all [bodyPostS, results, Try.results79]
theorem self_call (x : El) (w : World) : Calls Try.prog 71 #[V x] w fun e w' => e = .returned (.bool true) ∧ w' = w := by
  have hmf : ∀ (fn : Fn) (first cap : Array Value) (w : World), (Instr.makeFunc fn first cap).run Try.prog w = .ok (.func fn first cap) w := fun _ _ _ _ => rfl
  go_enter_defers Try.func71, Try.ntmps71
  go_wp2
  refine leaves_cons (f := 79) (args := #[]) (by simp) (by simp [go_sem]) ?_
  refine (idle _).mono ?_
  rintro e u' w'' ⟨rfl, rfl, rfl⟩
  simp [Leaves, settle, results, Try.results71, go_sem]
end Go.Proofs.Ytdmjfmojacnbeaa.Self
