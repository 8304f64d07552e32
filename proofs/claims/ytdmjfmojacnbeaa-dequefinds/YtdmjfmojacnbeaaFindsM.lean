/- The mathematics of DequeFinds. -/
import Derived.Test.YtdmjfmojacnbeaaPieces
namespace Go.Proofs.Ytdmjfmojacnbeaa.FindsM
open Go.Proofs.Ytdmjfmojacnbeaa.Base
open Go.Proofs.Ytdmjfmojacnbeaa.FindMath
open Go.Proofs.Ytdmjfmojacnbeaa.Find
open Go.Proofs.Ytdmjfmojacnbeaa.FindA
open Go.Proofs.Ytdmjfmojacnbeaa.SortC
open Go.Proofs.Ytdmjfmojacnbeaa.DropC
open Go.Proofs.Ytdmjfmojacnbeaa.Remove
set_option linter.unusedVariables false
/-- all places of v, rising -/
def allP (l : List El) (v : El) : List Nat := hits l v false l.length
theorem find_all (l : List El) (v : El) : findS l v 1 0 0 = ints (allP l v) := by
  unfold findS
  rw [if_neg (by decide), show looked l.length 0 = l.length from rfl]
  rfl
theorem mem_hits {l : List El} {v : El} {back : Bool} {m p : Nat} : p ∈ hits l v back m ↔ (∃ k, k < m ∧ p = way l.length back k) ∧ l[p]? = some v := by
  unfold hits
  simp only [List.mem_filter, List.mem_map, List.mem_range, decide_eq_true_eq]
  constructor
  · rintro ⟨⟨k, h1, h2⟩, h3⟩
    exact ⟨⟨k, h1, h2.symm⟩, h3⟩
  · rintro ⟨⟨k, h1, h2⟩, h3⟩
    exact ⟨⟨k, h1, h2.symm⟩, h3⟩
theorem back_rev (l : List El) (v : El) : hits l v true l.length = (allP l v).reverse := by
  have h1 : (hits l v true l.length).reverse.Pairwise (· < ·) := List.pairwise_reverse.2 (down_hits l v _ (Nat.le_refl _))
  have h2 : (allP l v).Pairwise (· < ·) := up_hits l v _
  have hp : (hits l v true l.length).reverse.Perm (allP l v) := by
    refine (List.perm_ext_iff_of_nodup (h1.imp fun {a b} h => Nat.ne_of_lt h) (h2.imp fun {a b} h => Nat.ne_of_lt h)).2 fun p => ?_
    rw [List.mem_reverse, mem_hits, allP, mem_hits]
    constructor
    · rintro ⟨⟨k, hk, e⟩, h⟩
      refine ⟨⟨p, ?_, rfl⟩, h⟩
      exact (List.getElem?_eq_some_iff.1 h).1
    · rintro ⟨⟨k, hk, e⟩, h⟩
      have hpl : p < l.length := (List.getElem?_eq_some_iff.1 h).1
      exact ⟨⟨l.length - 1 - p, by omega, by unfold way; simp; omega⟩, h⟩
  have := List.Perm.eq_of_pairwise (le := fun a b : Nat => a < b) (fun a b _ _ h1 h2 => by omega) h1 h2 hp
  rw [← this, List.reverse_reverse]
theorem find_back (l : List El) (v : El) : findS l v (-1) 0 0 = (ints (allP l v)).reverse := by
  unfold findS
  rw [if_neg (by decide), show looked l.length 0 = l.length from rfl]
  show ints (findN l v 1 true 0 l.length) = _
  rw [show findN l v 1 true 0 l.length = hits l v true l.length from rfl, back_rev]
  unfold ints
  rw [List.map_reverse]
theorem find_no (l : List El) (v : El) : findS l v 0 0 0 = [] := rfl
theorem find_least (l : List El) (v : El) (h : l.length ≤ 17592186043904) : findS l v (-9223372036854775808) 0 0 = [] := by
  unfold findS
  rw [if_neg (by decide), show looked l.length 0 = l.length from rfl, find_far l v _ _ _ _ (by have : Int.natAbs (-9223372036854775808) = 9223372036854775808 := rfl; omega)]
  rfl
/-- what was met among the first i -/
theorem hits_all {l : List El} {v : El} {i : Nat} (hi : i < l.length) (hv : l[i] = v) : ∃ rest, allP l v = hits l v false i ++ i :: rest := by
  obtain ⟨rest, hr⟩ := hits_pre l v false (i + 1) l.length (by omega)
  have := hit (l := l) (v := v) (back := false) (k := i) (by show l[i]? = _; rw [List.getElem?_eq_getElem hi, hv])
  rw [this] at hr
  exact ⟨rest, by rw [allP, hr, List.append_assoc]; rfl⟩
theorem find_nth {l : List El} {v : El} {i at' : Nat} (hi : i < l.length) (hv : l[i] = v) (ha : at' = (hits l v false i).length) : findS l v ((at' : Int) + 1) 1 0 = [(i : Int)] := by
  obtain ⟨rest, hr⟩ := hits_all hi hv
  unfold findS
  rw [if_neg (by omega), show looked l.length 0 = l.length from rfl, show ((at' : Int) + 1).natAbs = at' + 1 by omega, show decide (((at' : Int) + 1) < 0) = false by simp; omega]
  unfold findN takeC
  rw [if_neg (by decide), show hits l v false l.length = _ from hr, show at' + 1 - 1 = at' by omega, ha, List.drop_left' rfl]
  rfl
theorem find_first {l : List El} {v : El} {i : Nat} (hi : i < l.length) (hv : l[i] = v) : findS l v 1 0 ((i : Int) + 1) = ints (hits l v false i ++ [i]) := by
  have hl : looked l.length ((i : Int) + 1) = i + 1 := by unfold looked; rw [if_neg (by omega), if_pos (by omega)]; omega
  unfold findS
  rw [if_neg (by decide), hl]
  show ints (findN l v 1 false 0 (i + 1)) = _
  rw [show findN l v 1 false 0 (i + 1) = hits l v false (i + 1) from rfl, hit (by show l[i]? = _; rw [List.getElem?_eq_getElem hi, hv])]
  rfl
/-- those that are not v -/
def others (l : List El) (v : El) : List El := l.filter fun x => decide (x ≠ v)
def posF (v : El) : List El → List Nat
  | [] => []
  | x :: r => if x = v then 0 :: (posF v r).map (· + 1) else (posF v r).map (· + 1)
theorem range_posF (v : El) : ∀ l : List El, (List.range l.length).filter (fun i => decide (l[i]? = some v)) = posF v l
  | [] => rfl
  | x :: r => by
    have ih := range_posF v r
    rw [List.length_cons, List.range_succ_eq_map, List.filter_cons, List.filter_map, posF, ← ih]
    have e : ((fun i => decide ((x :: r)[i]? = some v)) ∘ Nat.succ) = fun i => decide (r[i]? = some v) := by
      funext i; simp
    rw [e]
    by_cases h : x = v
    · subst h; simp
    · rw [if_neg h]; simp [h]
theorem all_posF (l : List El) (v : El) : allP l v = posF v l := by
  rw [← range_posF]
  unfold allP hits
  rw [show way l.length false = id from rfl, List.map_id]
theorem drop_posF (v : El) : ∀ (l : List El) (i : Nat), dropS l i ((posF v l).map (· + i)) = others l v
  | [], _ => rfl
  | x :: r, i => by
    have ih := drop_posF v r (i + 1)
    have e : ((posF v r).map (· + 1)).map (· + i) = (posF v r).map (· + (i + 1)) := by
      rw [List.map_map]
      congr 1
      funext k
      simp; omega
    by_cases h : x = v
    · rw [posF, if_pos h, List.map_cons, e, dropS, if_pos (by omega), ih]
      unfold others
      rw [List.filter_cons, if_neg (by simpa using h)]
    · rw [posF, if_neg h, e]
      have ho : others (x :: r) v = x :: others r v := by
        unfold others
        rw [List.filter_cons, if_pos (by simpa using h)]
      rw [ho]
      cases hp : (posF v r).map (· + (i + 1)) with
      | nil => rw [dropS, ← ih, hp]
      | cons p ps =>
        have hne : i ≠ p := by
          have : p ∈ (posF v r).map (· + (i + 1)) := by rw [hp]; exact List.mem_cons_self
          obtain ⟨k, _, hk⟩ := List.mem_map.1 this
          omega
        rw [dropS, if_neg hne, ← ih, hp]
theorem drop_all (l : List El) (v : El) : dropS l 0 (allP l v) = others l v := by
  rw [all_posF]
  have := drop_posF v l 0
  simpa using this
theorem none_left (l : List El) (v : El) : findN (others l v) v 1 false 1 (others l v).length = [] := by
  have : hits (others l v) v false (others l v).length = [] := by
    rw [List.eq_nil_iff_forall_not_mem]
    intro p hp
    have h := hits_at hp
    have hm := List.mem_of_getElem? h
    unfold others at hm
    simpa using (List.mem_filter.1 hm).2
  unfold findN takeC
  rw [this]
  rfl
theorem others_take (l : List El) (v : El) (i : Nat) (hi : i < l.length) : others (l.take (i + 1)) v = if l[i] = v then others (l.take i) v else others (l.take i) v ++ [l[i]] := by
  rw [List.take_succ_eq_append_getElem hi]
  unfold others
  rw [List.filter_append]
  by_cases h : l[i] = v
  · rw [if_pos h]; simp [h]
  · rw [if_neg h]; simp [h]
theorem others_len (l : List El) (v : El) : (others l v).length ≤ l.length := List.length_filter_le _ _
theorem hits_next (l : List El) (v : El) (i : Nat) (hi : i < l.length) : (hits l v false (i + 1)).length = if l[i] = v then (hits l v false i).length + 1 else (hits l v false i).length := by
  rw [hits_succ, show way l.length false i = i from rfl, List.getElem?_eq_getElem hi]
  by_cases h : l[i] = v
  · rw [if_pos (by rw [h]), if_pos h]; simp
  · rw [if_neg (fun e => h (Option.some.inj e)), if_neg h]
theorem rem_all (l : List El) (v : El) : remP l (-9223372036854775808) v = allP l v := by
  unfold remP
  rw [if_pos (by decide), show IntKind.i64.wrap (-(-9223372036854775808)) = -9223372036854775808 by decide]
  show (takeC _ ((hits l v true l.length).drop 0)).reverse = _
  rw [show takeC (-9223372036854775808) ((hits l v true l.length).drop 0) = hits l v true l.length from rfl, back_rev, List.reverse_reverse]
end Go.Proofs.Ytdmjfmojacnbeaa.FindsM
