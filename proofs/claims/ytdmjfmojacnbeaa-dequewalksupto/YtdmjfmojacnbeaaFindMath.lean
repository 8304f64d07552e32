/- The mathematics of places that are found. -/
namespace Go.Proofs.Ytdmjfmojacnbeaa.FindMath
variable {α : Type} [DecidableEq α]
/-- the place that is looked at as the k-th -/
def way (n : Nat) (back : Bool) (k : Nat) : Nat := if back then n - 1 - k else k
/-- the places of v among the first m that are looked at -/
def hits (l : List α) (v : α) (back : Bool) (m : Nat) : List Nat := ((List.range m).map (way l.length back)).filter fun i => decide (l[i]? = some v)
def takeC (c : Int) (xs : List Nat) : List Nat := if c < 1 then xs else xs.take c.toNat
def findN (l : List α) (v : α) (r : Nat) (back : Bool) (c : Int) (m : Nat) : List Nat := takeC c ((hits l v back m).drop (r - 1))
theorem hits_zero (l : List α) (v : α) (back : Bool) : hits l v back 0 = [] := rfl
theorem hits_succ (l : List α) (v : α) (back : Bool) (k : Nat) : hits l v back (k + 1) = if l[way l.length back k]? = some v then hits l v back k ++ [way l.length back k] else hits l v back k := by
  unfold hits
  rw [List.range_succ, List.map_append, List.filter_append]
  by_cases h : l[way l.length back k]? = some v
  · rw [if_pos h]; simp [h]
  · rw [if_neg h]; simp [h]
theorem hits_pre (l : List α) (v : α) (back : Bool) (k m : Nat) (h : k ≤ m) : ∃ rest, hits l v back m = hits l v back k ++ rest := by
  induction m with
  | zero => exact ⟨[], by rw [show k = 0 by omega]; rfl⟩
  | succ m ih =>
    by_cases q : k = m + 1
    · subst q; exact ⟨[], by simp⟩
    · obtain ⟨rest, hr⟩ := ih (by omega)
      rw [hits_succ]
      split
      · exact ⟨rest ++ [_], by rw [hr, List.append_assoc]⟩
      · exact ⟨rest, hr⟩
theorem hits_len (l : List α) (v : α) (back : Bool) (m : Nat) : (hits l v back m).length ≤ m := by
  have := List.length_filter_le (fun i => decide (l[i]? = some v)) ((List.range m).map (way l.length back))
  simpa [hits] using this
theorem way_lt {n k : Nat} (back : Bool) (h : k < n) : way n back k < n := by unfold way; split <;> omega
/-- a round that finds nothing -/
theorem no_hit {l : List α} {v : α} {back : Bool} {k : Nat} (h : ¬ l[way l.length back k]? = some v) : hits l v back (k + 1) = hits l v back k := by rw [hits_succ, if_neg h]
theorem hit {l : List α} {v : α} {back : Bool} {k : Nat} (h : l[way l.length back k]? = some v) : hits l v back (k + 1) = hits l v back k ++ [way l.length back k] := by rw [hits_succ, if_pos h]
/-- so many as were asked for have been found -/
theorem full_find {l : List α} {v : α} {back : Bool} {r k m : Nat} {c : Int} (hk : k ≤ m) (hc : 0 < c) (h : (((hits l v back k).drop (r - 1)).length : Int) = c) : (hits l v back k).drop (r - 1) = findN l v r back c m := by
  obtain ⟨rest, hr⟩ := hits_pre l v back k m hk
  unfold findN takeC
  rw [if_neg (by omega), hr]
  have hl : r - 1 ≤ (hits l v back k).length := by
    rw [List.length_drop] at h
    omega
  rw [List.drop_append_of_le_length hl, List.take_append_of_le_length (by omega), List.take_of_length_le (by omega)]
/-- not so many yet -/
theorem less_find {l : List α} {v : α} {back : Bool} {r m : Nat} {c : Int} (h : c < 1 ∨ (((hits l v back m).drop (r - 1)).length : Int) < c) : (hits l v back m).drop (r - 1) = findN l v r back c m := by
  unfold findN takeC
  split
  · rfl
  · rw [List.take_of_length_le (by omega)]
end Go.Proofs.Ytdmjfmojacnbeaa.FindMath
