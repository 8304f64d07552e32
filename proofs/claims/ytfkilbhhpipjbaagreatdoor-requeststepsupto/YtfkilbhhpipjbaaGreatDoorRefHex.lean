/- The document's own hex. -/
import Derived.Test.YtfkilbhhpipjbaaGreatDoorRefPart
namespace Go.Proofs.YtfkilbhhpipjbaaGreatDoor.RefHex
open Go.RowKit
open Go.Proofs.YtfkilbhhpipjbaaGreatDoor.ReqMath
open Go.Proofs.YtfkilbhhpipjbaaGreatDoor.Base
set_option linter.unusedVariables false
def hexI (c : UInt8) : Int := match hexV c with | some x => (x : Int) | none => -1
theorem hex_le {c : UInt8} {x : Nat} (h : hexV c = some x) : x ≤ 15 := by
  unfold hexV at h
  split at h
  · cases h; omega
  · split at h
    · cases h; omega
    · split at h
      · cases h; omega
      · cases h
set_option maxRecDepth 100000 in
set_option maxHeartbeats 1000000 in
theorem hex_call (c : UInt8) (w : World) : Calls Tryz.prog 51 #[.int .u8 (c.toNat : Int)] w fun e w' => e = .returned (.int .i64 (hexI c)) ∧ w' = w := by
  unfold hexI hexV
  generalize c.toNat = n
  by_cases h1 : 48 ≤ n ∧ n ≤ 57
  · rw [if_pos h1]
    obtain ⟨a, b⟩ := h1
    dsimp only
    rw [show ((n - 48 : Nat) : Int) = (n : Int) - 48 from by omega]
    have a' : 48 ≤ (n : Int) := by omega
    have b' : (n : Int) ≤ 57 := by omega
    go_enter Tryz.func51, Tryz.ntmps51
    go_wp2_with fail
    go_ret
    exact ⟨rfl, rfl⟩
  · rw [if_neg h1]
    by_cases h2 : 97 ≤ n ∧ n ≤ 102
    · rw [if_pos h2]
      obtain ⟨a, b⟩ := h2
      dsimp only
      rw [show ((n - 87 : Nat) : Int) = (n : Int) - 97 + 10 from by omega]
      have a' : 97 ≤ (n : Int) := by omega
      have b' : (n : Int) ≤ 102 := by omega
      clear h1
      go_enter Tryz.func51, Tryz.ntmps51
      go_wp2_with fail
      go_ret
      exact ⟨rfl, rfl⟩
    · rw [if_neg h2]
      by_cases h3 : 65 ≤ n ∧ n ≤ 70
      · rw [if_pos h3]
        obtain ⟨a, b⟩ := h3
        dsimp only
        rw [show ((n - 55 : Nat) : Int) = (n : Int) - 65 + 10 from by omega]
        have a' : 65 ≤ (n : Int) := by omega
        have b' : (n : Int) ≤ 70 := by omega
        clear h1 h2
        go_enter Tryz.func51, Tryz.ntmps51
        go_wp2_with fail
        go_ret
        exact ⟨rfl, rfl⟩
      · rw [if_neg h3]
        dsimp only
        have q : (n : Int) < 48 ∨ (57 < (n : Int) ∧ (n : Int) < 65) ∨ (70 < (n : Int) ∧ (n : Int) < 97) ∨ 102 < (n : Int) := by omega
        clear h1 h2 h3
        rcases q with q | ⟨q1, q2⟩ | ⟨q1, q2⟩ | q
        all_goals
          go_enter Tryz.func51, Tryz.ntmps51
          go_wp2_with fail
          go_ret
          exact ⟨rfl, rfl⟩
end Go.Proofs.YtfkilbhhpipjbaaGreatDoor.RefHex
