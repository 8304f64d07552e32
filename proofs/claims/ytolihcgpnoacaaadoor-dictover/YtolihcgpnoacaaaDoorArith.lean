/- The contracts of num.Add, num.Sub and num.Mul at every two ints: the sum, difference or product and 0 where it is an int, else 0 and 11; the world stands. -/
import Derived.Test.YtolihcgpnoacaaaDoorRows
import Derived.Test.YtolihcgpnoacaaaDoorNumMath
import Derived.WalkKit
namespace Go.Proofs.YtolihcgpnoacaaaDoor.Arith
open Go.RowKit (wrap64)
open Go.Proofs.YtolihcgpnoacaaaDoor.NumMath

theorem ret_two {a b c d : Int} (h1 : a = b) (h2 : c = d) : Ending.returned (.tuple #[.int .i64 a, .int .i64 c]) = .returned (.tuple #[.int .i64 b, .int .i64 d]) := by rw [h1, h2]

set_option maxHeartbeats 400000 in
theorem add_any (a b : Int) (w : World) (ha : InI a) (hb : InI b) :
    Calls Tryd.prog 30 #[.int .i64 a, .int .i64 b] w fun e w' => e = .returned (.tuple #[.int .i64 (outV (a + b)), .int .i64 (outE (a + b))]) ∧ w' = w := by
  obtain ⟨ha1, ha2⟩ := ha
  obtain ⟨hb1, hb2⟩ := hb
  by_cases h : fitB (a + b) = true
  · have hv := outV_pos h
    have he := outE_pos h
    rw [hv, he]
    rw [fitB_iff] at h
    obtain ⟨h1, h2⟩ := h
    clear hv he
    go_enter Tryd.func30, Tryd.ntmps30
    go_wp2
    all_goals
      go_ret2
      exact ⟨rfl, rfl⟩
  · rw [Bool.not_eq_true] at h
    rw [outV_neg h, outE_neg h]
    rcases fitB_false h with h1 | h1
    · have hn : b < 0 := by omega
      have hw := add_wrap_hi ⟨ha1, ha2⟩ ⟨hb1, hb2⟩ hn h1
      clear h
      go_enter Tryd.func30, Tryd.ntmps30
      go_wp2
      all_goals
        go_ret2
        exact ⟨rfl, rfl⟩
    · have hn : 0 < b := by omega
      have hw := add_wrap_lo ⟨ha1, ha2⟩ ⟨hb1, hb2⟩ hn h1
      clear h
      go_enter Tryd.func30, Tryd.ntmps30
      go_wp2
      all_goals
        go_ret2
        exact ⟨rfl, rfl⟩

end Go.Proofs.YtolihcgpnoacaaaDoor.Arith
