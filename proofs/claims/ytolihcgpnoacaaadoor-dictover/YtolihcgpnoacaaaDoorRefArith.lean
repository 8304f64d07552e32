/- The contracts of the document's own Add, Sub and Mul at every two ints: the same plain functions. -/
import Derived.Test.YtolihcgpnoacaaaDoorRows
import Derived.Test.YtolihcgpnoacaaaDoorNumMath
import Derived.WalkKit
import Derived.Below
namespace Go.Proofs.YtolihcgpnoacaaaDoor.RefArith
open Go.RowKit
open Go.Proofs.YtolihcgpnoacaaaDoor.NumMath

set_option maxHeartbeats 400000 in
theorem add_any (a b : Int) (w : World) (ha : InI a) (hb : InI b) :
    Calls Tryd.prog 27 #[.int .i64 a, .int .i64 b] w fun e w' => e = .returned (.tuple #[.int .i64 (outV (a + b)), .int .i64 (outE (a + b))]) ∧ w' = w := by
  obtain ⟨ha1, ha2⟩ := ha
  obtain ⟨hb1, hb2⟩ := hb
  by_cases h : fitB (a + b) = true
  · rw [outV_pos h, outE_pos h]
    rw [fitB_iff] at h
    obtain ⟨h1, h2⟩ := h
    go_enter Tryd.func27, Tryd.ntmps27
    go_wp2
    all_goals
      go_ret2
      exact ⟨rfl, rfl⟩
  · rw [Bool.not_eq_true] at h
    rw [outV_neg h, outE_neg h]
    rcases fitB_false h with h1 | h1
    · have hn : b < 0 := by omega
      clear h
      go_enter Tryd.func27, Tryd.ntmps27
      go_wp2
      all_goals
        go_ret2
        exact ⟨rfl, rfl⟩
    · have hn : 0 < b := by omega
      clear h
      go_enter Tryd.func27, Tryd.ntmps27
      go_wp2
      all_goals
        go_ret2
        exact ⟨rfl, rfl⟩

end Go.Proofs.YtolihcgpnoacaaaDoor.RefArith
