/- The sum of the document's own. -/
import Derived.Test.YtcgdnpcegcmboaaGreatDoorRows
import Derived.Test.YtcgdnpcegcmboaaGreatDoorRPrintM
import Derived.WalkKit
import Derived.Maps.OwnSet
import Derived.IntWalk
namespace Go.Proofs.YtcgdnpcegcmboaaGreatDoor.RAdd
open Go.RowKit Go.Maps
open Go.Proofs.YtcgdnpcegcmboaaGreatDoor.DiNumMath (InI fitB)
set_option linter.unusedVariables false
set_option linter.unusedSimpArgs false
set_option maxHeartbeats 2000000 in
theorem add_call (n y : Int) (w : World) (hn : InI n) (hy : InI y) :
    Calls Tryz.prog 27 #[.int .i64 n, .int .i64 y] w fun e w' => e = .returned (.tuple #[.int .i64 (if fitB (n + y) = true then n + y else 0), .int .i64 (if fitB (n + y) = true then 0 else 11)]) ∧ w' = w := by
  unfold InI at hn hy
  have ws : fitB (n + y) = true → IntKind.i64.wrap (n + y) = n + y := fun h => IntWalk.i64_in _ (by have := of_decide_eq_true h; omega)
  by_cases hf : fitB (n + y) = true
  · rw [if_pos hf, if_pos hf]
    have hs := of_decide_eq_true hf
    have w0 := ws hf
    by_cases h1 : 0 < y
    · have w1 : IntKind.i64.wrap (9223372036854775807 - y) = 9223372036854775807 - y := IntWalk.i64_in _ (by omega)
      have g1 : ¬ (9223372036854775807 - y < n) := by omega
      have g2 : ¬ (y < 0) := by omega
      go_enter Tryz.func27, Tryz.ntmps27
      go_wp2_with fail
      go_ret2
      exact ⟨rfl, rfl⟩
    · by_cases h2 : y < 0
      · have w1 : IntKind.i64.wrap (-9223372036854775808 - y) = -9223372036854775808 - y := IntWalk.i64_in _ (by omega)
        have g1 : ¬ (n < -9223372036854775808 - y) := by omega
        go_enter Tryz.func27, Tryz.ntmps27
        go_wp2_with fail
        go_ret2
        exact ⟨rfl, rfl⟩
      · go_enter Tryz.func27, Tryz.ntmps27
        go_wp2_with fail
        go_ret2
        exact ⟨rfl, rfl⟩
  · rw [if_neg hf, if_neg hf]
    have hs : ¬ (-9223372036854775808 ≤ n + y ∧ n + y ≤ 9223372036854775807) := fun h => hf (decide_eq_true h)
    by_cases h1 : 0 < y
    · have w1 : IntKind.i64.wrap (9223372036854775807 - y) = 9223372036854775807 - y := IntWalk.i64_in _ (by omega)
      have g1 : 9223372036854775807 - y < n := by omega
      go_enter Tryz.func27, Tryz.ntmps27
      go_wp2_with fail
      go_ret2
      exact ⟨rfl, rfl⟩
    · have h2 : y < 0 := by omega
      have w1 : IntKind.i64.wrap (-9223372036854775808 - y) = -9223372036854775808 - y := IntWalk.i64_in _ (by omega)
      have g1 : n < -9223372036854775808 - y := by omega
      go_enter Tryz.func27, Tryz.ntmps27
      go_wp2_with fail
      go_ret2
      exact ⟨rfl, rfl⟩
end Go.Proofs.YtcgdnpcegcmboaaGreatDoor.RAdd
