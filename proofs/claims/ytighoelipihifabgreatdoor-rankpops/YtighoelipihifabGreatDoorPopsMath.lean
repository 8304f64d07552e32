/- What is popped from both ends, and put in again: no program is met here. -/
import Derived.Test.YtighoelipihifabGreatDoorRankMath3
namespace Go.Proofs.YtighoelipihifabGreatDoor.PopsMath
open Go.Proofs.YtighoelipihifabGreatDoor.MapMath
open Go.Proofs.YtighoelipihifabGreatDoor.RankMath
open Go.Proofs.YtighoelipihifabGreatDoor.RankMath2
open Go.Proofs.YtighoelipihifabGreatDoor.RankMath3
set_option linter.unusedVariables false
theorem clamp_le (x : Int) (n : Nat) : clampS x n ≤ n := by unfold clampS; omega
theorem clamp_max (x : Int) (n : Nat) : ((clampS x n : Nat) : Int) = max 0 (min x (n : Int)) := by unfold clampS; omega
theorem pop_f (l : EL) (k : Nat) : popS l k false = l.take k := by unfold popS runS way; simp
theorem pop_t (l : EL) (k : Nat) : popS l k true = l.reverse.take k := by unfold popS runS way; simp
theorem left_f (l : EL) (k : Nat) : leftS l k false = l.drop k := by unfold leftS; simp
theorem left_t (l : EL) (k : Nat) : leftS l k true = l.take (l.length - k) := by unfold leftS; simp
structure Parts (L A B C : EL) (p q : Nat) : Prop where
  a : A = L.take p
  b : B = (L.drop p).reverse.take q
  c : C = (L.drop p).take ((L.drop p).length - q)
  hp : p ≤ L.length
  hq : q ≤ L.length - p
section
variable {L A B C : EL} {p q : Nat}
theorem Parts.lenA (h : Parts L A B C p q) : A.length = p := by rw [h.a, List.length_take]; have := h.hp; omega
theorem Parts.lenB (h : Parts L A B C p q) : B.length = q := by rw [h.b, List.length_take, List.length_reverse, List.length_drop]; have := h.hq; omega
theorem Parts.lenC (h : Parts L A B C p q) : C.length = L.length - p - q := by rw [h.c, List.length_take, List.length_drop]; omega
theorem Parts.mid (h : Parts L A B C p q) : (L.drop p).take C.length = C := by rw [h.lenC, h.c, List.length_drop]
theorem Parts.getB (h : Parts L A B C p q) {i : Nat} (hi : i < B.length) (h2 : L.length - 1 - i < L.length) : B[i]'hi = L[L.length - 1 - i]'h2 := by
  have hl := h.lenB
  have hq := h.hq
  subst hl
  have e : ∀ (B' : EL) (e : B' = (L.drop p).reverse.take B.length) (hi' : i < B'.length), B'[i]'hi' = L[L.length - 1 - i]'h2 := by
    intro B' e hi'
    subst e
    rw [List.getElem_take, List.getElem_reverse, List.getElem_drop]
    congr 1
    rw [List.length_drop]
    omega
  exact e B h.b hi
theorem Parts.perm (h : Parts L A B C p q) : (C ++ B ++ A).Perm L := by
  have hq := h.hq
  have e1 : B.Perm ((L.drop p).drop ((L.drop p).length - q)) := by
    rw [h.b]
    have : (L.drop p).reverse.take q = ((L.drop p).drop ((L.drop p).length - q)).reverse := by rw [← pop_t, pop_true (by rw [List.length_drop]; exact hq)]
    rw [this]
    exact List.reverse_perm _
  have e2 : (C ++ B).Perm (L.drop p) := by
    refine (List.Perm.append_left C e1).trans ?_
    rw [h.c, List.take_append_drop]
  refine (List.Perm.append_right A e2).trans ?_
  rw [h.a]
  refine List.perm_append_comm.trans ?_
  rw [List.take_append_drop]
end
theorem wout_id {X : EL} {k : Bs} (h : ok X k = false) : wout X k = X := by
  unfold wout
  refine List.filter_eq_self.2 fun p hp => ?_
  cases e : (p.1 == k) with
  | false => simp
  | true =>
    have : ok X k = true := ok_iff.2 ⟨p, hp, by simpa using e⟩
    rw [h] at this
    cases this
theorem step {Z X : EL} (u : Uq Z) (hs : Srt X) {j : Nat} (hp : X.Perm (Z.take j)) (hj : j < Z.length) : ok X (Z[j]'hj).1 = false ∧ Srt (setE X (Z[j]'hj).1 (Z[j]'hj).2) ∧ (setE X (Z[j]'hj).1 (Z[j]'hj).2).Perm (Z.take (j + 1)) := by
  have hno : ok X (Z[j]'hj).1 = false := by
    cases e : ok X (Z[j]'hj).1 with
    | false => rfl
    | true =>
      obtain ⟨x, hx, e1⟩ := ok_iff.1 e
      obtain ⟨i, hi, rfl⟩ := List.mem_take_iff_getElem.1 (hp.mem_iff.1 hx)
      have hi2 : i < Z.length := by omega
      have e2 := uq_at u (List.getElem_mem hi2) (List.getElem_mem hj) e1
      have := (List.getElem_inj (uq_nodup u)).1 e2
      omega
  refine ⟨hno, setE_srt hs _ _, ?_⟩
  refine (setE_perm X _ _).trans ?_
  rw [wout_id hno, List.take_succ_eq_append_getElem hj]
  exact ((List.perm_append_singleton (Z[j]'hj) X).symm).trans (hp.append_right _)
end Go.Proofs.YtighoelipihifabGreatDoor.PopsMath
