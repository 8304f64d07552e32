/- Places: span and fromFront of the code, Places of the document. -/
import Derived.Test.YtdkdjgpeeglbhaaDoorProg
import Derived.Test.YtdkdjgpeeglbhaaDoorBlobMath
import Derived.WalkKit
import Derived.Below
namespace Go.Proofs.YtdkdjgpeeglbhaaDoor.Span
open Go.RowKit
open Go.Proofs.YtdkdjgpeeglbhaaDoor.BlobMath
set_option linter.unusedVariables false
set_option linter.unusedSimpArgs false

theorem hid_of {p : Prop} (h : p) : Hid p := h
def InI (n : Int) : Prop := -9223372036854775808 ≤ n ∧ n ≤ 9223372036854775807
theorem ret_i {a b : Int} (h : a = b) : Ending.returned (.int .i64 a) = .returned (.int .i64 b) := by rw [h]
theorem ret_ii {a b c d : Int} (h1 : a = b) (h2 : c = d) : Ending.returned (.tuple #[.int .i64 a, .int .i64 c]) = .returned (.tuple #[.int .i64 b, .int .i64 d]) := by rw [h1, h2]
theorem ff_call (n : Nat) (p : Int) (w : World) (hn : n ≤ 140737488351232) (hp : InI p) :
    Calls Tryd.prog 43 #[.int .i64 (n : Int), .int .i64 p] w fun e w' => e = .returned (.int .i64 (fr n p)) ∧ w' = w := by
  obtain ⟨p0, p1⟩ := hp
  by_cases h : p < 0
  · go_enter Tryd.func43, Tryd.ntmps43
    go_wp2
    go_ret
    exact ⟨ret_i (by unfold fr; rw [if_pos h]), rfl⟩
  · go_enter Tryd.func43, Tryd.ntmps43
    go_wp2
    go_ret
    exact ⟨ret_i (by unfold fr; rw [if_neg (by omega)]), rfl⟩
theorem fr_bd {n : Nat} {p : Int} (hn : n ≤ 140737488351232) (hp : InI p) : InI (fr n p) := by
  unfold InI fr at *; split <;> omega
theorem span_call (n : Nat) (f t : Int) (w : World) (hn : n ≤ 140737488351232) (hf : InI f) (ht : InI t) :
    Calls Tryd.prog 26 #[.int .i64 (n : Int), .int .i64 f, .int .i64 t] w fun e w' => e = .returned (.tuple #[.int .i64 (spA n f t : Nat), .int .i64 (spB n f t : Nat)]) ∧ w' = w := by
  have H1 := hid_of (fun w => ff_call n f w hn hf)
  have H2 := hid_of (fun w => ff_call n t w hn ht)
  obtain ⟨a0, a1⟩ := fr_bd hn hf
  obtain ⟨b0, b1⟩ := fr_bd hn ht
  have HA := hid_of (show spA n f t = if min (fr n t) (n - 1) + 1 < max (fr n f) 0 then 0 else (max (fr n f) 0).toNat from rfl)
  have HB := hid_of (show spB n f t = if min (fr n t) (n - 1) + 1 < max (fr n f) 0 then 0 else (min (fr n t) (n - 1) + 1).toNat from rfl)
  generalize spA n f t = A at *
  generalize spB n f t = B at *
  generalize fr n f = X at *
  generalize fr n t = Y at *
  clear hf ht
  rcases (show X < 0 ∨ 0 ≤ X by omega) with h1 | h1 <;> rcases (show Y ≤ (n : Int) - 1 ∨ (n : Int) - 1 < Y by omega) with h2 | h2
  · rcases (show Y + 1 < 0 ∨ 0 ≤ Y + 1 by omega) with h3 | h3
    all_goals
      go_enter Tryd.func26, Tryd.ntmps26
      go_wp2_with fail
      refine (H1.out _).mono ?_
      rintro e w1 ⟨rfl, rfl⟩
      go_wp2_with fail
      refine (H2.out _).mono ?_
      rintro e w1 ⟨rfl, rfl⟩
      go_wp2
      go_ret2
      exact ⟨ret_ii (by rw [HA.out]; split <;> omega) (by rw [HB.out]; split <;> omega), rfl⟩
  · go_enter Tryd.func26, Tryd.ntmps26
    go_wp2_with fail
    refine (H1.out _).mono ?_
    rintro e w1 ⟨rfl, rfl⟩
    go_wp2_with fail
    refine (H2.out _).mono ?_
    rintro e w1 ⟨rfl, rfl⟩
    go_wp2
    go_ret2
    exact ⟨ret_ii (by rw [HA.out]; split <;> omega) (by rw [HB.out]; split <;> omega), rfl⟩
  · rcases (show Y + 1 < X ∨ X ≤ Y + 1 by omega) with h3 | h3
    all_goals
      go_enter Tryd.func26, Tryd.ntmps26
      go_wp2_with fail
      refine (H1.out _).mono ?_
      rintro e w1 ⟨rfl, rfl⟩
      go_wp2_with fail
      refine (H2.out _).mono ?_
      rintro e w1 ⟨rfl, rfl⟩
      go_wp2
      go_ret2
      exact ⟨ret_ii (by rw [HA.out]; split <;> omega) (by rw [HB.out]; split <;> omega), rfl⟩
  · rcases (show (n : Int) < X ∨ X ≤ (n : Int) by omega) with h3 | h3
    all_goals
      go_enter Tryd.func26, Tryd.ntmps26
      go_wp2_with fail
      refine (H1.out _).mono ?_
      rintro e w1 ⟨rfl, rfl⟩
      go_wp2_with fail
      refine (H2.out _).mono ?_
      rintro e w1 ⟨rfl, rfl⟩
      go_wp2
      go_ret2
      exact ⟨ret_ii (by rw [HA.out]; split <;> omega) (by rw [HB.out]; split <;> omega), rfl⟩

/-! ### the document's -/
def plA (n : Nat) (f t : Int) : Int := if fr n t < max (fr n f) 0 ∨ (n : Int) ≤ max (fr n f) 0 then 0 else max (fr n f) 0
def plB (n : Nat) (f t : Int) : Int := if fr n t < max (fr n f) 0 ∨ (n : Int) ≤ max (fr n f) 0 then -1 else min (fr n t) (n - 1)
theorem pl_same (n : Nat) (f t : Int) : (plA n f t = spA n f t ∧ plB n f t + 1 = spB n f t) ∨ (plA n f t = 0 ∧ plB n f t + 1 = 0 ∧ spA n f t = spB n f t) := by
  unfold plA plB spA spB
  generalize fr n f = X
  generalize fr n t = Y
  split <;> split <;> omega
theorem places_call (n : Nat) (f t : Int) (w : World) (hn : n ≤ 140737488351232) (hf : InI f) (ht : InI t) :
    Calls Tryd.prog 28 #[.int .i64 (n : Int), .int .i64 f, .int .i64 t] w fun e w' => e = .returned (.tuple #[.int .i64 (plA n f t), .int .i64 (plB n f t)]) ∧ w' = w := by
  obtain ⟨f0, f1⟩ := hf
  obtain ⟨t0, t1⟩ := ht
  have HA := hid_of (show plA n f t = if fr n t < max (fr n f) 0 ∨ (n : Int) ≤ max (fr n f) 0 then 0 else max (fr n f) 0 from rfl)
  have HB := hid_of (show plB n f t = if fr n t < max (fr n f) 0 ∨ (n : Int) ≤ max (fr n f) 0 then -1 else min (fr n t) (n - 1) from rfl)
  have HX := hid_of (show fr n f = if f < 0 then n + f else f from rfl)
  have HY := hid_of (show fr n t = if t < 0 then n + t else t from rfl)
  generalize plA n f t = A at *
  generalize plB n f t = B at *
  generalize fr n f = X at *
  generalize fr n t = Y at *
  rcases (show f < 0 ∨ 0 ≤ f by omega) with h1 | h1 <;> rcases (show t < 0 ∨ 0 ≤ t by omega) with h3 | h3
  · obtain ⟨F, HF⟩ : ∃ F, Hid (F = n + f) := ⟨_, rfl⟩
    obtain ⟨T, HT⟩ : ∃ T, Hid (T = n + t) := ⟨_, rfl⟩
    have HX' := hid_of (show X = F by rw [HX.out, HF.out, if_pos h1])
    have HY' := hid_of (show Y = T by rw [HY.out, HT.out, if_pos h3])
    clear HX HY
    go_enter Tryd.func28, Tryd.ntmps28
    go_wp2
    all_goals
      go_ret2
      refine ⟨ret_ii ?_ ?_, rfl⟩
      · rw [HA.out, HX'.out, HY'.out, HF.out, HT.out]; split <;> omega
      · rw [HB.out, HX'.out, HY'.out, HF.out, HT.out]; split <;> omega
  · obtain ⟨F, HF⟩ : ∃ F, Hid (F = n + f) := ⟨_, rfl⟩
    obtain ⟨T, HT⟩ : ∃ T, Hid (T = t) := ⟨_, rfl⟩
    have HX' := hid_of (show X = F by rw [HX.out, HF.out, if_pos h1])
    have HY' := hid_of (show Y = T by rw [HY.out, HT.out, if_neg (by omega)])
    clear HX HY
    go_enter Tryd.func28, Tryd.ntmps28
    go_wp2
    all_goals
      go_ret2
      refine ⟨ret_ii ?_ ?_, rfl⟩
      · rw [HA.out, HX'.out, HY'.out, HF.out, HT.out]; split <;> omega
      · rw [HB.out, HX'.out, HY'.out, HF.out, HT.out]; split <;> omega
  · obtain ⟨F, HF⟩ : ∃ F, Hid (F = f) := ⟨_, rfl⟩
    obtain ⟨T, HT⟩ : ∃ T, Hid (T = n + t) := ⟨_, rfl⟩
    have HX' := hid_of (show X = F by rw [HX.out, HF.out, if_neg (by omega)])
    have HY' := hid_of (show Y = T by rw [HY.out, HT.out, if_pos h3])
    clear HX HY
    go_enter Tryd.func28, Tryd.ntmps28
    go_wp2
    all_goals
      go_ret2
      refine ⟨ret_ii ?_ ?_, rfl⟩
      · rw [HA.out, HX'.out, HY'.out, HF.out, HT.out]; split <;> omega
      · rw [HB.out, HX'.out, HY'.out, HF.out, HT.out]; split <;> omega
  · obtain ⟨F, HF⟩ : ∃ F, Hid (F = f) := ⟨_, rfl⟩
    obtain ⟨T, HT⟩ : ∃ T, Hid (T = t) := ⟨_, rfl⟩
    have HX' := hid_of (show X = F by rw [HX.out, HF.out, if_neg (by omega)])
    have HY' := hid_of (show Y = T by rw [HY.out, HT.out, if_neg (by omega)])
    clear HX HY
    go_enter Tryd.func28, Tryd.ntmps28
    go_wp2
    all_goals
      go_ret2
      refine ⟨ret_ii ?_ ?_, rfl⟩
      · rw [HA.out, HX'.out, HY'.out, HF.out, HT.out]; split <;> omega
      · rw [HB.out, HX'.out, HY'.out, HF.out, HT.out]; split <;> omega
end Go.Proofs.YtdkdjgpeeglbhaaDoor.Span
