/- container/heap's Push, Fix, Remove and Pop: the mathematics, and what a thing's own Len, Push and Pop do. -/
import Derived.Test.YtiaggddpoddbcaaHeap
namespace Go.Proofs.Ytiaggddpoddbcaa.Heap
open Go.RowKit
open Go.Proofs.Ytiaggddpoddbcaa.HeapMath
set_option linter.unusedVariables false
set_option linter.unusedSimpArgs false
structure Thing {α : Type} [Inhabited α] (len less pop push swap : Nat) (lt : α → α → Prop) [DecidableRel lt] (pv : Value) (xv : α → Value) (ok : α → List α → Prop) (R : World → List α → Prop) (F : World → World → Prop) : Prop where
  moves : Moves less swap lt pv R F
  len : ∀ w l, R w l → Calls Try.prog len #[pv] w fun e w' => e = .returned (.int .i64 (l.length : Int)) ∧ R w' l ∧ F w w'
  push : ∀ w l a, R w l → ok a l → Calls Try.prog push #[pv, xv a] w fun e w' => e = .returned (.tuple #[]) ∧ R w' (l ++ [a]) ∧ F w w'
  pop : ∀ w l, R w l → 0 < l.length → Calls Try.prog pop #[pv] w fun e w' => e = .returned (xv (pl l (l.length - 1))) ∧ R w' (l.take (l.length - 1)) ∧ F w w'
section
variable {α : Type} [Inhabited α] {lt : α → α → Prop}
theorem pl_app (l : List α) (a : α) (k : Nat) : pl (l ++ [a]) k = if k = l.length then a else pl l k := by
  unfold pl
  by_cases h : k < l.length
  · rw [if_neg (by omega)]; simp only [List.getD]; rw [List.getElem?_append_left h]
  · by_cases q : k = l.length
    · subst q; simp [List.getD]
    · rw [if_neg q]
      simp only [List.getD]
      rw [List.getElem?_eq_none (by simp; omega), List.getElem?_eq_none (by omega)]
theorem up_new {l : List α} {a : α} (h : Hp lt l l.length) : Up lt (l ++ [a]) (l.length + 1) l.length := by
  refine ⟨fun k hk hkn hne => ?_, fun k hk hkn hkp _ => ?_⟩
  · have hp := par_lt hk
    rw [pl_app, pl_app, if_neg hne, if_neg (by omega)]
    exact h k hk (by omega)
  · have := par_lt hk; omega
theorem pl_take {l : List α} {n k : Nat} (h : k < n) : pl (l.take n) k = pl l k := by
  unfold pl; simp only [List.getD]; rw [List.getElem?_take_of_lt h]
theorem hp_take {l : List α} {n : Nat} (h : Hp lt l n) : Hp lt (l.take n) n := fun k hk hkn => by
  have := par_lt hk
  rw [pl_take hkn, pl_take (by omega)]
  exact h k hk hkn
theorem take_last {l : List α} (h : 0 < l.length) : l.take (l.length - 1) ++ [pl l (l.length - 1)] = l := by
  rw [pl_in (by omega)]
  have := List.take_append_getElem (l := l) (i := l.length - 1) (by omega)
  rw [this, show l.length - 1 + 1 = l.length by omega, List.take_length]
/-- what is left when the last is taken away -/
theorem left_perm {l l' : List α} {a : α} (h0 : 0 < l.length) (hp : l'.Perm l) (ha : pl l' (l.length - 1) = a) : (l'.take (l'.length - 1) ++ [a]).Perm l := by
  have e : l'.length = l.length := hp.length_eq
  have := take_last (l := l') (by omega)
  rw [e] at this ⊢
  rw [ha] at this
  rw [this]
  exact hp
/-- the last is brought to i -/
theorem brought (o : STO lt) {l : List α} {i : Nat} (h : Hp lt l l.length) (hi : i < l.length - 1) : D0 lt (swp l i (l.length - 1)) (l.length - 1) i := by
  refine ⟨fun k hk hkn h1 h2 => ?_, fun k hk hkn h1 h2 => ?_⟩
  · have := par_lt hk
    rw [swp_at (by omega) (by omega), swp_at (by omega) (by omega), if_neg (by omega), if_neg h1, if_neg (by omega), if_neg h2]
    exact h k hk (by omega)
  · have h3 := par_lt hk
    have h4 := par_lt h2
    rw [swp_at (by omega) (by omega), swp_at (by omega) (by omega), if_neg (by omega), if_neg (by omega), if_neg (by omega), if_neg (by omega)]
    have a := h k hk (by omega)
    rw [h1] at a
    exact o.le_trans (h i h2 (by omega)) a
end
end Go.Proofs.Ytiaggddpoddbcaa.Heap
