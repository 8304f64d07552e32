/- The contracts of num.Add, num.Sub and num.Mul at every two ints: the sum, difference or product and 0 where it is an int, else 0 and 11; the world stands. -/
import Derived.Test.YtkiejncaleondaaRows
import Derived.Test.YtkiejncaleondaaMath
import Derived.WalkKit
namespace Go.Proofs.Ytkiejncaleondaa.Arith
open Go.RowKit (wrap64)
open Go.Proofs.Ytkiejncaleondaa.Math

theorem ret_two {a b c d : Int} (h1 : a = b) (h2 : c = d) : Ending.returned (.tuple #[.int .i64 a, .int .i64 c]) = .returned (.tuple #[.int .i64 b, .int .i64 d]) := by rw [h1, h2]

set_option maxHeartbeats 400000 in
theorem add_any (a b : Int) (w : World) (ha : InI a) (hb : InI b) :
    Calls Try.prog 7 #[.int .i64 a, .int .i64 b] w fun e w' => e = .returned (.tuple #[.int .i64 (outV (a + b)), .int .i64 (outE (a + b))]) ∧ w' = w := by
  obtain ⟨ha1, ha2⟩ := ha
  obtain ⟨hb1, hb2⟩ := hb
  by_cases h : fitB (a + b) = true
  · have hv := outV_pos h
    have he := outE_pos h
    rw [hv, he]
    rw [fitB_iff] at h
    obtain ⟨h1, h2⟩ := h
    clear hv he
    go_enter Try.func7, Try.ntmps7
    go_wp2
    all_goals
      go_ret2
      exact ⟨rfl, rfl⟩
  · rw [Bool.not_eq_true] at h
    rw [outV_neg h, outE_neg h]
    rcases fitB_false h with h1 | h1
    · have hn : b < 0 := by omega
      have hw := add_wrap_hi ⟨ha1, ha2⟩ ⟨hb1, hb2⟩ hn h1
      clear h
      go_enter Try.func7, Try.ntmps7
      go_wp2
      all_goals
        go_ret2
        exact ⟨rfl, rfl⟩
    · have hn : 0 < b := by omega
      have hw := add_wrap_lo ⟨ha1, ha2⟩ ⟨hb1, hb2⟩ hn h1
      clear h
      go_enter Try.func7, Try.ntmps7
      go_wp2
      all_goals
        go_ret2
        exact ⟨rfl, rfl⟩

set_option maxHeartbeats 400000 in
theorem sub_any (a b : Int) (w : World) (ha : InI a) (hb : InI b) :
    Calls Try.prog 8 #[.int .i64 a, .int .i64 b] w fun e w' => e = .returned (.tuple #[.int .i64 (outV (a - b)), .int .i64 (outE (a - b))]) ∧ w' = w := by
  obtain ⟨ha1, ha2⟩ := ha
  obtain ⟨hb1, hb2⟩ := hb
  by_cases h : fitB (a - b) = true
  · have hv := outV_pos h
    have he := outE_pos h
    rw [hv, he]
    rw [fitB_iff] at h
    obtain ⟨h1, h2⟩ := h
    clear hv he
    go_enter Try.func8, Try.ntmps8
    go_wp2
    all_goals
      go_ret2
      exact ⟨rfl, rfl⟩
  · rw [Bool.not_eq_true] at h
    rw [outV_neg h, outE_neg h]
    rcases fitB_false h with h1 | h1
    · have hn : 0 < b := by omega
      have hw := sub_wrap_hi ⟨ha1, ha2⟩ ⟨hb1, hb2⟩ hn h1
      clear h
      go_enter Try.func8, Try.ntmps8
      go_wp2
      all_goals
        go_ret2
        exact ⟨rfl, rfl⟩
    · have hn : b < 0 := by omega
      have hw := sub_wrap_lo ⟨ha1, ha2⟩ ⟨hb1, hb2⟩ hn h1
      clear h
      go_enter Try.func8, Try.ntmps8
      go_wp2
      all_goals
        go_ret2
        exact ⟨rfl, rfl⟩

set_option maxHeartbeats 400000 in
theorem mul_any (a b : Int) (w : World) (ha : InI a) (hb : InI b) :
    Calls Try.prog 9 #[.int .i64 a, .int .i64 b] w fun e w' => e = .returned (.tuple #[.int .i64 (outV (a * b)), .int .i64 (outE (a * b))]) ∧ w' = w := by
  by_cases h0 : b = 0
  · subst h0
    rw [show a * 0 = 0 from by omega, show outV 0 = 0 from by decide, show outE 0 = 0 from by decide]
    go_enter Try.func9, Try.ntmps9
    go_wp2
    go_ret2
    exact ⟨rfl, rfl⟩
  · by_cases h1 : b = -1
    · subst h1
      rw [show a * -1 = -a from by omega]
      have hz : InI 0 := by unfold InI; omega
      go_enter Try.func9, Try.ntmps9
      go_wp2_with (go_at_call 8; refine (sub_any _ _ _ hz ha).mono ?_; rintro e w' ⟨rfl, rfl⟩)
      go_ret2
      exact ⟨rfl, rfl⟩
    · have t0 : (b == 0) = false := by simpa using h0
      have t1 : (b == -1) = false := by simpa using h1
      by_cases h : fitB (a * b) = true
      · have hw : wrap64 (a * b) = a * b := wrap_in ((fitB_iff _).1 h).1 ((fitB_iff _).1 h).2
        rw [outV_pos h, outE_pos h]
        obtain ⟨ha1, ha2⟩ := ha
        clear h hb h1
        go_enter Try.func9, Try.ntmps9
        go_wp2
        go_ret2
        exact ⟨ret_two hw rfl, rfl⟩
      · rw [Bool.not_eq_true] at h
        have hq := mul_off hb h0 h1 h
        rw [outV_neg h, outE_neg h]
        clear h ha hb h1
        go_enter Try.func9, Try.ntmps9
        go_wp2
        go_ret2
        exact ⟨rfl, rfl⟩
end Go.Proofs.Ytkiejncaleondaa.Arith
