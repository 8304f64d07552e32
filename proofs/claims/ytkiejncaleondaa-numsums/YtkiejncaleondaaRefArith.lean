/- The contracts of the document's own Add, Sub and Mul at every two ints: the same plain functions. -/
import Derived.Test.YtkiejncaleondaaRows
import Derived.Test.YtkiejncaleondaaMath
import Derived.WalkKit
import Derived.Below
namespace Go.Proofs.Ytkiejncaleondaa.RefArith
open Go.RowKit
open Go.Proofs.Ytkiejncaleondaa.Math

set_option maxHeartbeats 400000 in
theorem add_any (a b : Int) (w : World) (ha : InI a) (hb : InI b) :
    Calls Try.prog 10 #[.int .i64 a, .int .i64 b] w fun e w' => e = .returned (.tuple #[.int .i64 (outV (a + b)), .int .i64 (outE (a + b))]) ∧ w' = w := by
  obtain ⟨ha1, ha2⟩ := ha
  obtain ⟨hb1, hb2⟩ := hb
  by_cases h : fitB (a + b) = true
  · rw [outV_pos h, outE_pos h]
    rw [fitB_iff] at h
    obtain ⟨h1, h2⟩ := h
    go_enter Try.func10, Try.ntmps10
    go_wp2
    all_goals
      go_ret2
      exact ⟨rfl, rfl⟩
  · rw [Bool.not_eq_true] at h
    rw [outV_neg h, outE_neg h]
    rcases fitB_false h with h1 | h1
    · have hn : b < 0 := by omega
      clear h
      go_enter Try.func10, Try.ntmps10
      go_wp2
      all_goals
        go_ret2
        exact ⟨rfl, rfl⟩
    · have hn : 0 < b := by omega
      clear h
      go_enter Try.func10, Try.ntmps10
      go_wp2
      all_goals
        go_ret2
        exact ⟨rfl, rfl⟩

set_option maxHeartbeats 400000 in
theorem sub_any (a b : Int) (w : World) (ha : InI a) (hb : InI b) :
    Calls Try.prog 11 #[.int .i64 a, .int .i64 b] w fun e w' => e = .returned (.tuple #[.int .i64 (outV (a - b)), .int .i64 (outE (a - b))]) ∧ w' = w := by
  obtain ⟨ha1, ha2⟩ := ha
  obtain ⟨hb1, hb2⟩ := hb
  by_cases h : fitB (a - b) = true
  · rw [outV_pos h, outE_pos h]
    rw [fitB_iff] at h
    obtain ⟨h1, h2⟩ := h
    go_enter Try.func11, Try.ntmps11
    go_wp2
    all_goals
      go_ret2
      exact ⟨rfl, rfl⟩
  · rw [Bool.not_eq_true] at h
    rw [outV_neg h, outE_neg h]
    rcases fitB_false h with h1 | h1
    · have hn : 0 < b := by omega
      clear h
      go_enter Try.func11, Try.ntmps11
      go_wp2
      all_goals
        go_ret2
        exact ⟨rfl, rfl⟩
    · have hn : b < 0 := by omega
      clear h
      go_enter Try.func11, Try.ntmps11
      go_wp2
      all_goals
        go_ret2
        exact ⟨rfl, rfl⟩

theorem wrapu {a : Int} (h1 : -9223372036854775808 ≤ a) (h2 : a < 0) : IntKind.u64.wrap (-IntKind.u64.wrap a) = -a := by
  simp [IntKind.wrap, IntKind.signed, IntKind.bits]; omega
theorem ret_one {a b : Int} (h : a = b) : Ending.returned (.int .u64 a) = .returned (.int .u64 b) := by rw [h]
theorem ret_two {a b c d : Int} (h1 : a = b) (h2 : c = d) : Ending.returned (.tuple #[.int .i64 a, .int .i64 c]) = .returned (.tuple #[.int .i64 b, .int .i64 d]) := by rw [h1, h2]

set_option maxHeartbeats 400000 in
theorem size_any (a : Int) (w : World) (ha : InI a) :
    Calls Try.prog 19 #[.int .i64 a] w fun e w' => e = .returned (.int .u64 (sz a)) ∧ w' = w := by
  obtain ⟨ha1, ha2⟩ := ha
  by_cases hn : a < 0
  · rw [sz_neg hn]
    go_enter Try.func19, Try.ntmps19
    go_wp2
    go_ret
    exact ⟨ret_one (wrapu ha1 hn), rfl⟩
  · have hn' : 0 ≤ a := by omega
    rw [sz_pos hn']
    go_enter Try.func19, Try.ntmps19
    go_wp2
    go_ret
    exact ⟨rfl, rfl⟩

set_option maxHeartbeats 400000 in
theorem mul_any (a b : Int) (w : World) (ha : InI a) (hb : InI b) :
    Calls Try.prog 12 #[.int .i64 a, .int .i64 b] w fun e w' => e = .returned (.tuple #[.int .i64 (outV (a * b)), .int .i64 (outE (a * b))]) ∧ w' = w := by
  obtain ⟨ba1, ba2⟩ := sz_bd ha
  obtain ⟨bb1, bb2⟩ := sz_bd hb
  by_cases h0 : a = 0
  · have z : (sz a != 0) = false := by subst h0; decide
    rw [show a * b = 0 from by subst h0; simp, show outV 0 = 0 from by decide, show outE 0 = 0 from by decide]
    have hw : wrap64 (a * b) = 0 := by subst h0; simp [wrap64]
    have HW : Hid (wrap64 (a * b) = 0) := hw
    clear hw h0
    cases hs : (!decide (a < 0) == decide (b < 0))
    all_goals
      go_enter Try.func12, Try.ntmps12
      go_wp2_with fail
      refine (size_any _ _ ha).mono ?_
      rintro e w' ⟨rfl, rfl⟩
      go_wp2_with fail
      refine (size_any _ _ hb).mono ?_
      rintro e w' ⟨rfl, rfl⟩
      go_wp2
      all_goals
        go_ret2
        exact ⟨ret_two HW.out rfl, rfl⟩
  · have z : (sz a != 0) = true := by
      have := sz_eq a
      rw [bne_iff_ne]; omega
    have zz : 0 < sz a := by
      have := sz_eq a
      omega
    cases hs : (!decide (a < 0) == decide (b < 0))
    · cases hf : fitB (a * b)
      · have hq := (fit_same h0 (same_sign hs)).2 hf
        rw [outV_neg hf, outE_neg hf]
        clear hf h0
        go_enter Try.func12, Try.ntmps12
        go_wp2_with fail
        refine (size_any _ _ ha).mono ?_
        rintro e w' ⟨rfl, rfl⟩
        go_wp2_with fail
        refine (size_any _ _ hb).mono ?_
        rintro e w' ⟨rfl, rfl⟩
        go_wp2
        all_goals
          go_ret2
          exact ⟨rfl, rfl⟩
      · have hq : sz b ≤ 9223372036854775807 / sz a := by
          by_cases h : 9223372036854775807 / sz a < sz b
          · rw [(fit_same h0 (same_sign hs)).1 h] at hf; cases hf
          · exact Int.not_lt.1 h
        rw [outV_pos hf, outE_pos hf]
        have hw : wrap64 (a * b) = a * b := wrap_in ((fitB_iff _).1 hf).1 ((fitB_iff _).1 hf).2
        have HW : Hid (wrap64 (a * b) = a * b) := hw
        clear hw
        clear hf h0
        go_enter Try.func12, Try.ntmps12
        go_wp2_with fail
        refine (size_any _ _ ha).mono ?_
        rintro e w' ⟨rfl, rfl⟩
        go_wp2_with fail
        refine (size_any _ _ hb).mono ?_
        rintro e w' ⟨rfl, rfl⟩
        go_wp2
        all_goals
          go_ret2
          exact ⟨ret_two HW.out rfl, rfl⟩
    · cases hf : fitB (a * b)
      · have hq := (fit_diff h0 (diff_sign hs)).2 hf
        rw [outV_neg hf, outE_neg hf]
        clear hf h0
        go_enter Try.func12, Try.ntmps12
        go_wp2_with fail
        refine (size_any _ _ ha).mono ?_
        rintro e w' ⟨rfl, rfl⟩
        go_wp2_with fail
        refine (size_any _ _ hb).mono ?_
        rintro e w' ⟨rfl, rfl⟩
        go_wp2
        all_goals
          go_ret2
          exact ⟨rfl, rfl⟩
      · have hq : sz b ≤ 9223372036854775808 / sz a := by
          by_cases h : 9223372036854775808 / sz a < sz b
          · rw [(fit_diff h0 (diff_sign hs)).1 h] at hf; cases hf
          · exact Int.not_lt.1 h
        rw [outV_pos hf, outE_pos hf]
        have hw : wrap64 (a * b) = a * b := wrap_in ((fitB_iff _).1 hf).1 ((fitB_iff _).1 hf).2
        have HW : Hid (wrap64 (a * b) = a * b) := hw
        clear hw
        clear hf h0
        go_enter Try.func12, Try.ntmps12
        go_wp2_with fail
        refine (size_any _ _ ha).mono ?_
        rintro e w' ⟨rfl, rfl⟩
        go_wp2_with fail
        refine (size_any _ _ hb).mono ?_
        rintro e w' ⟨rfl, rfl⟩
        go_wp2
        all_goals
          go_ret2
          exact ⟨ret_two HW.out rfl, rfl⟩
end Go.Proofs.Ytkiejncaleondaa.RefArith
