/- The mathematics of Remove: what is left is the same, from either side. -/
import Derived.Test.YtdmjfmojacnbeaaRemove
namespace Go.Proofs.Ytdmjfmojacnbeaa.RemM
open Go.Proofs.Ytdmjfmojacnbeaa.Base
open Go.Proofs.Ytdmjfmojacnbeaa.FindMath
open Go.Proofs.Ytdmjfmojacnbeaa.SortC
open Go.Proofs.Ytdmjfmojacnbeaa.DropC
open Go.Proofs.Ytdmjfmojacnbeaa.Remove
set_option linter.unusedVariables false
theorem fm_congr {α β : Type} {f g : α → Option β} : ∀ {l : List α}, (∀ i ∈ l, f i = g i) → l.filterMap f = l.filterMap g
  | [], _ => rfl
  | x :: r, h => by
    rw [List.filterMap_cons, List.filterMap_cons, h x List.mem_cons_self, fm_congr fun i hi => h i (List.mem_cons_of_mem _ hi)]
/-- those whose places are not in ps -/
def keepS (l : List El) (ps : List Nat) : List El := ((List.range l.length).filter fun i => decide (i ∉ ps)).filterMap fun i => l[i]?
theorem dropS_filter : ∀ (l : List El) (i : Nat) (ps : List Nat), ps.Pairwise (· < ·) → (∀ p ∈ ps, i ≤ p) → dropS l i ps = ((List.range l.length).filter fun k => decide (i + k ∉ ps)).filterMap fun k => l[k]?
  | [], i, ps, _, _ => by cases ps <;> simp [dropS]
  | x :: r, i, ps, hs, hp => by
    have hr : List.range (x :: r).length = 0 :: (List.range r.length).map Nat.succ := by rw [List.length_cons, List.range_succ_eq_map]
    rw [hr, List.filter_cons]
    have hmap : ∀ qs : List Nat, (((List.range r.length).map Nat.succ).filter fun k => decide (i + k ∉ qs)).filterMap (fun k => (x :: r)[k]?) = ((List.range r.length).filter fun k => decide (i + 1 + k ∉ qs)).filterMap fun k => r[k]? := fun qs => by
      rw [List.filter_map, List.filterMap_map]
      congr 1
      congr 1
      funext k
      simp only [Function.comp_apply, Nat.succ_eq_add_one]
      rw [show i + (k + 1) = i + 1 + k by omega]
    cases ps with
    | nil =>
      rw [dropS, dropS_filter r (i + 1) [] List.Pairwise.nil (fun p hp => by cases hp)]
      rw [if_pos (by simp), List.filterMap_cons, hmap]
      simp
    | cons p ps =>
      rw [List.pairwise_cons] at hs
      by_cases e : i = p
      · rw [dropS, if_pos e, if_neg (by simp [e]), hmap, dropS_filter r (i + 1) ps hs.2 (fun q hq => by have := hs.1 q hq; omega)]
        congr 1
        apply List.filter_congr
        intro k _
        have : i + 1 + k ≠ p := by omega
        simp [this]
      · have hlt : i < p := by have := hp p List.mem_cons_self; omega
        have hn : i ∉ p :: ps := by
          intro hm
          rcases List.mem_cons.1 hm with e2 | e2
          · exact e e2
          · have := hs.1 i e2; omega
        rw [dropS, if_neg e, if_pos (by simpa using hn), List.filterMap_cons, hmap, dropS_filter r (i + 1) (p :: ps) (List.pairwise_cons.2 hs) (fun q hq => by
          rcases List.mem_cons.1 hq with rfl | e2
          · omega
          · have := hs.1 q e2; omega)]
        rfl
theorem drop_keep (l : List El) (ps : List Nat) (h : ps.Pairwise (· < ·)) : dropS l 0 ps = keepS l ps := by
  rw [dropS_filter l 0 ps h (fun p _ => Nat.zero_le p)]
  unfold keepS
  simp
theorem keep_congr {l : List El} {ps qs : List Nat} (h : ∀ i, i < l.length → (i ∈ ps ↔ i ∈ qs)) : keepS l ps = keepS l qs := by
  unfold keepS
  congr 1
  apply List.filter_congr
  intro i hi
  have := h i (List.mem_range.1 hi)
  simp [this]
theorem rev_range (n : Nat) : (List.range n).reverse = (List.range n).map fun k => n - 1 - k := by
  apply List.ext_getElem?
  intro i
  by_cases h : i < n
  · rw [List.getElem?_reverse (by simpa using h), List.length_range, List.getElem?_range (by omega), List.getElem?_map, List.getElem?_range h]
    rfl
  · rw [List.getElem?_eq_none (by simp; omega), List.getElem?_eq_none (by simp; omega)]
/-- turned round -/
theorem keep_rev (l : List El) (ps : List Nat) (h : ∀ p ∈ ps, p < l.length) : (keepS l.reverse ps).reverse = keepS l (ps.map fun p => l.length - 1 - p) := by
  unfold keepS
  rw [List.length_reverse, ← List.filterMap_reverse, ← List.filter_reverse, rev_range, List.filter_map, List.filterMap_map]
  have e1 : (List.range l.length).filter ((fun i => decide (i ∉ ps)) ∘ fun k => l.length - 1 - k) = (List.range l.length).filter fun i => decide (i ∉ ps.map fun p => l.length - 1 - p) := by
    apply List.filter_congr
    intro i hi
    have hi2 := List.mem_range.1 hi
    have : (l.length - 1 - i ∈ ps) ↔ (i ∈ ps.map fun p => l.length - 1 - p) := by
      rw [List.mem_map]
      constructor
      · intro hm
        exact ⟨_, hm, by omega⟩
      · rintro ⟨p, hp, e⟩
        have := h p hp
        have : l.length - 1 - i = p := by omega
        rw [this]; exact hp
    simp only [Function.comp_apply]
    by_cases q : l.length - 1 - i ∈ ps
    · simp [q, this.1 q]
    · have q2 := fun e => q (this.2 e)
      rw [decide_eq_true (p := l.length - 1 - i ∉ ps) q, decide_eq_true (p := i ∉ _) q2]
  rw [e1]
  apply fm_congr
  intro i hi
  have hi2 := List.mem_range.1 (List.mem_filter.1 hi).1
  simp only [Function.comp_apply]
  rw [List.getElem?_reverse (by omega)]
  congr 1
  omega
theorem hits_rev (l : List El) (v : El) (m : Nat) (h : m ≤ l.length) : hits l v true m = (hits l.reverse v false m).map fun p => l.length - 1 - p := by
  unfold hits
  rw [show way l.reverse.length false = id from rfl, List.map_id, List.filter_map]
  rw [show (fun p => l.length - 1 - p) = way l.length true from rfl]
  congr 1
  apply List.filter_congr
  intro i hi
  have hi2 := List.mem_range.1 hi
  simp only [Function.comp_apply]
  rw [List.getElem?_reverse (by omega)]
  rfl
theorem takeC_map (c : Int) (f : Nat → Nat) (xs : List Nat) : takeC c (xs.map f) = (takeC c xs).map f := by
  unfold takeC
  split
  · rfl
  · rw [List.map_take]
/-- how many at most -/
def absC (count : Int) : Int := if count < 0 then -count else count
theorem takeC_min (xs : List Nat) (h : (xs.length : Int) < 9223372036854775808) : takeC (-9223372036854775808) xs = takeC 9223372036854775808 xs := by
  unfold takeC
  rw [if_pos (by decide), if_neg (by decide), List.take_of_length_le (by omega)]
/-- what Remove leaves, said from the side it goes from -/
theorem rem_front (l : List El) (count : Int) (v : El) (h : ¬ count < 0) : remP l count v = findN l v 1 false (absC count) l.length := by
  unfold remP absC
  rw [if_neg h, if_neg h]
theorem rem_back (l : List El) (count : Int) (v : El) (h : count < 0) (h2 : -9223372036854775808 ≤ count) (hl : l.length ≤ 35184372088832) :
    dropS l 0 (remP l count v) = (dropS l.reverse 0 (findN l.reverse v 1 false (absC count) l.reverse.length)).reverse ∧ (remP l count v).length = (findN l.reverse v 1 false (absC count) l.reverse.length).length := by
  have hw : takeC (IntKind.i64.wrap (-count)) (hits l v true l.length) = takeC (absC count) (hits l v true l.length) := by
    have hh := hits_len l v true l.length
    unfold absC
    rw [if_pos h]
    by_cases q : count = -9223372036854775808
    · subst q
      rw [show IntKind.i64.wrap (- -9223372036854775808) = -9223372036854775808 by decide]
      exact takeC_min _ (by omega)
    · rw [IntWalk.i64_in _ (by omega)]
  have e0 : remP l count v = ((takeC (absC count) (hits l.reverse v false l.length)).map fun p => l.length - 1 - p).reverse := by
    unfold remP
    rw [if_pos h]
    show (takeC _ ((hits l v true l.length).drop 0)).reverse = _
    rw [List.drop_zero, hw, hits_rev l v _ (Nat.le_refl _), takeC_map]
  have e1 : findN l.reverse v 1 false (absC count) l.reverse.length = takeC (absC count) (hits l.reverse v false l.length) := by
    rw [List.length_reverse]; rfl
  have hup : (takeC (absC count) (hits l.reverse v false l.length)).Pairwise (· < ·) := (up_hits l.reverse v _).sublist (takeC_sub _ _)
  have hlt : ∀ p ∈ takeC (absC count) (hits l.reverse v false l.length), p < l.length := fun p hp => by
    have := hits_at ((takeC_sub _ _).subset hp)
    have := (List.getElem?_eq_some_iff.1 this).1
    rwa [List.length_reverse] at this
  have hps : (remP l count v).Pairwise (· < ·) := by
    rw [e0]
    refine List.pairwise_reverse.2 ?_
    rw [List.pairwise_map]
    refine List.Pairwise.imp_of_mem ?_ hup
    intro a b ha hb hab
    have := hlt a ha
    have := hlt b hb
    omega
  refine ⟨?_, by rw [e0, e1]; simp⟩
  rw [drop_keep _ _ hps, e1, drop_keep _ _ hup, keep_rev _ _ hlt]
  apply keep_congr
  intro i _
  rw [e0, List.mem_reverse]
/-- one more is looked at -/
theorem drop_snoc (l : List El) (ps : List Nat) (x : El) (h : ps.Pairwise (· < ·)) (hp : ∀ p ∈ ps, p < l.length) : dropS (l ++ [x]) 0 ps = dropS l 0 ps ++ [x] ∧ dropS (l ++ [x]) 0 (ps ++ [l.length]) = dropS l 0 ps := by
  have hp2 : (ps ++ [l.length]).Pairwise (· < ·) := List.pairwise_append.2 ⟨h, List.pairwise_singleton _ _, fun a ha b hb => by
    rw [List.mem_singleton] at hb; subst hb; exact hp a ha⟩
  rw [drop_keep _ _ h, drop_keep _ _ h, drop_keep _ _ hp2]
  unfold keepS
  have hr : List.range (l ++ [x]).length = List.range l.length ++ [l.length] := by rw [List.length_append, List.length_singleton, List.range_succ]
  have hg : ∀ qs : List Nat, (((List.range l.length).filter fun i => decide (i ∉ qs)).filterMap fun i => (l ++ [x])[i]?) = ((List.range l.length).filter fun i => decide (i ∉ qs)).filterMap fun i => l[i]? := fun qs => by
    apply fm_congr
    intro i hi
    have := List.mem_range.1 (List.mem_filter.1 hi).1
    rw [List.getElem?_append_left this]
  have hn : l.length ∉ ps := fun e => Nat.lt_irrefl _ (hp _ e)
  rw [hr, List.filter_append, List.filterMap_append, List.filter_append, List.filterMap_append, hg, hg]
  constructor
  · simp [hn]
  · have : ((List.range l.length).filter fun i => decide (i ∉ ps ++ [l.length])) = (List.range l.length).filter fun i => decide (i ∉ ps) := by
      apply List.filter_congr
      intro i hi
      have := List.mem_range.1 hi
      have : i ≠ l.length := by omega
      simp [this]
    rw [this]
    simp
end Go.Proofs.Ytdmjfmojacnbeaa.RemM
