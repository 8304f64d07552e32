/- Find, whatever the rank. -/
import Derived.Test.YtdmjfmojacnbeaaFindB
namespace Go.Proofs.Ytdmjfmojacnbeaa.FindA
open Go.RowKit
open Go.Proofs.Ytdmjfmojacnbeaa.Base
open Go.Proofs.Ytdmjfmojacnbeaa.Held
open Go.Proofs.Ytdmjfmojacnbeaa.Lay
open Go.Proofs.Ytdmjfmojacnbeaa.Free
open Go.Proofs.Ytdmjfmojacnbeaa.Place
open Go.Proofs.Ytdmjfmojacnbeaa.Self
open Go.Proofs.Ytdmjfmojacnbeaa.FindMath
open Go.Proofs.Ytdmjfmojacnbeaa.Find
open Go.Proofs.Ytdmjfmojacnbeaa.FindB
set_option linter.unusedVariables false
set_option linter.unusedSimpArgs false
theorem find_zero (d : Value) (v : El) (count most : Int) (w : World) : Calls Try.prog 43 #[d, V v, .int .i64 0, .int .i64 count, .int .i64 most] w fun e w' => e = .returned (.slice none 0 0) ∧ w' = w := by
  go_enter Try.func43, Try.ntmps43
  go_wp2_with fail
  go_ret
  exact ⟨rfl, rfl⟩
theorem find_least (d : Value) (v : El) (R count most : Int) (hR : (R == 0) = false) (hR2 : (R == -9223372036854775808) = true) (w : World) : Calls Try.prog 43 #[d, V v, .int .i64 R, .int .i64 count, .int .i64 most] w fun e w' => e = .returned (.slice none 0 0) ∧ w' = w := by
  go_enter Try.func43, Try.ntmps43
  go_wp2_with fail
  go_ret
  exact ⟨rfl, rfl⟩
theorem find_far (l : List El) (v : El) (r : Nat) (back : Bool) (c : Int) (m : Nat) (h : m < r) : findN l v r back c m = [] := by
  have h1 := hits_len l v back m
  have : (hits l v back m).drop (r - 1) = [] := List.drop_eq_nil_of_le (by omega)
  unfold findN takeC
  rw [this]
  simp
theorem find_call {F : Nat → Prop} {b : Nat} {l : List El} {w : World} (h : DQ F b l w) (v : El) (rank count most : Int) (hr : -9223372036854775808 ≤ rank) (hr2 : rank ≤ 9223372036854775807) (hb : l.length * 8 ≤ 140737488355328) :
    Calls Try.prog 43 #[ptr b, V v, .int .i64 rank, .int .i64 count, .int .i64 most] w fun e w' => ∃ v', e = .returned v' ∧ Base.NR w.heap.size w' v' (findS l v rank count most) ∧ Below w.heap.size w w' := by
  have hl := lim_of h
  unfold findS
  by_cases h0 : rank = 0
  · subst h0
    rw [if_pos rfl]
    exact (find_zero _ v count most w).mono fun e w' ⟨he, hw⟩ => ⟨_, he, .inl ⟨rfl, rfl⟩, by rw [hw]; exact Below.refl _ _⟩
  · rw [if_neg h0]
    by_cases h1 : 0 < rank
    · rw [show decide (rank < 0) = false by simp; omega]
      have := find_pos h v rank.natAbs count most (by omega) (by omega) hb
      rw [show ((rank.natAbs : Nat) : Int) = rank by omega] at this
      exact this
    · rw [show decide (rank < 0) = true by simp; omega]
      by_cases h2 : rank = -9223372036854775808
      · have h3 := looked_le l.length most
        rw [find_far l v rank.natAbs true count _ (by omega)]
        exact (find_least _ v rank count most (by rw [beq_eq_false_iff_ne]; exact h0) (by rw [beq_iff_eq]; exact h2) w).mono fun e w' ⟨he, hw⟩ => ⟨_, he, .inl ⟨rfl, rfl⟩, by rw [hw]; exact Below.refl _ _⟩
      · have := find_neg h v rank.natAbs count most (by omega) (by omega) hb
        rw [show -((rank.natAbs : Nat) : Int) = rank by omega] at this
        exact this
end Go.Proofs.Ytdmjfmojacnbeaa.FindA
