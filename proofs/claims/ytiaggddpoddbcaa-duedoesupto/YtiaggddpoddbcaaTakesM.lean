/- Taken bit by bit: nothing is lost. -/
import Derived.Test.YtiaggddpoddbcaaDo
namespace Go.Proofs.Ytiaggddpoddbcaa.TakesM
open Go.Proofs.Ytiaggddpoddbcaa.HeapMath
open Go.Proofs.Ytiaggddpoddbcaa.Before
open Go.Proofs.Ytiaggddpoddbcaa.RowB
open Go.Proofs.Ytiaggddpoddbcaa.Peek
set_option linter.unusedVariables false
/- all that is due -/
def dueL (S : Es) (now : Int) : Es := S.takeWhile (fun x => decide (x.2 ≤ now))
theorem due_drop (now : Int) : ∀ (S : Es) (j : Nat), j ≤ (dueL S now).length → dueL (S.drop j) now = (dueL S now).drop j
  | S, 0, _ => rfl
  | [], j + 1, h => by simp [dueL] at h
  | x :: r, j + 1, h => by
    by_cases hx : x.2 ≤ now
    · have e : dueL (x :: r) now = x :: dueL r now := by unfold dueL; exact List.takeWhile_cons_of_pos (by simp [hx])
      rw [e] at h ⊢
      rw [List.drop_succ_cons, List.drop_succ_cons]
      exact due_drop now r j (by simpa using h)
    · have e : dueL (x :: r) now = [] := by unfold dueL; rw [List.takeWhile_cons_of_neg (by simp [hx])]
      rw [e] at h
      simp at h
theorem due_len (S : Es) (now : Int) : (dueL S now).length ≤ S.length := (List.takeWhile_prefix _).length_le
theorem got_due {S : Es} {now most : Int} (h : (S.length : Int) ≤ most) : got S now most = dueL S now := by
  unfold got
  exact List.take_of_length_le (by have := due_len S now; unfold dueL at this; omega)
theorem got_part {S : Es} {now most : Int} {j : Nat} (h : j ≤ (dueL S now).length) : got (S.drop j) now most = ((dueL S now).drop j).take most.toNat := by
  have := due_drop now S j h
  unfold got
  unfold dueL at this ⊢
  rw [this]
theorem part_len {S : Es} {now most : Int} {j : Nat} (h : j ≤ (dueL S now).length) : (got (S.drop j) now most).length = min most.toNat ((dueL S now).length - j) := by
  rw [got_part h, List.length_take, List.length_drop]
/- what has been taken, and what is taken then -/
theorem part_next {S : Es} {now most : Int} {j : Nat} (h : j ≤ (dueL S now).length) : (dueL S now).take j ++ got (S.drop j) now most = (dueL S now).take (j + (got (S.drop j) now most).length) := by
  rw [part_len h, got_part h, List.take_add]
  congr 1
  rw [List.take_eq_take_iff]
  simp
theorem part_all {S : Es} {now most : Int} {j k : Nat} (h : j ≤ (dueL S now).length) (hm : 1 ≤ most) (hk : k ≤ j ∨ j = (dueL S now).length) :
    j + (got (S.drop j) now most).length ≤ (dueL S now).length ∧ (k + 1 ≤ j + (got (S.drop j) now most).length ∨ j + (got (S.drop j) now most).length = (dueL S now).length) := by
  rw [part_len h]
  omega
/- what is left is not due -/
theorem left_none {S : Es} {now most : Int} : got (S.drop (dueL S now).length) now most = [] := by
  rw [got_part (Nat.le_refl _), List.drop_length, List.take_nil]
theorem left_late {now : Int} : ∀ {S : Es}, S.Pairwise ltS → ∀ x ∈ S.drop (dueL S now).length, now < x.2
  | [], _, x, hx => by simp at hx
  | y :: r, h, x, hx => by
    by_cases hy : y.2 ≤ now
    · have e : dueL (y :: r) now = y :: dueL r now := by unfold dueL; exact List.takeWhile_cons_of_pos (by simp [hy])
      rw [e, List.length_cons, List.drop_succ_cons] at hx
      exact left_late (List.pairwise_cons.1 h).2 x hx
    · have e : dueL (y :: r) now = [] := by unfold dueL; rw [List.takeWhile_cons_of_neg (by simp [hy])]
      rw [e] at hx
      rcases List.mem_cons.1 hx with rfl | hx
      · omega
      · have := (List.pairwise_cons.1 h).1 x hx
        unfold ltS at this
        unfold entLt at this
        split at this <;> omega
end Go.Proofs.Ytiaggddpoddbcaa.TakesM
