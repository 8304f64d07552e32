/- A row in the order of a heap, over any strict total order: what up and down keep; no program is met here. -/
import Derived.RowKit
namespace Go.Proofs.Ytiaggddpoddbcaa.HeapMath
set_option linter.unusedVariables false
set_option linter.unusedSimpArgs false

section
variable {α : Type} (lt : α → α → Prop)
/-- an order in which what is not before goes on -/
structure STO : Prop where
  irr : ∀ a, ¬ lt a a
  trans : ∀ a b c, lt a b → lt b c → lt a c
  nt : ∀ a b c, ¬ lt b a → ¬ lt c b → ¬ lt c a
variable {lt}
theorem STO.le_trans (h : STO lt) {a b c : α} (h1 : ¬ lt b a) (h2 : ¬ lt c b) : ¬ lt c a := h.nt a b c h1 h2
theorem STO.asymm (h : STO lt) {a b : α} (h1 : lt a b) : ¬ lt b a := fun h2 => h.irr _ (h.trans _ _ _ h1 h2)
theorem STO.pull {β : Type} (h : STO lt) (f : β → α) : STO (fun a b => lt (f a) (f b)) := ⟨fun a => h.irr _, fun a b c => h.trans _ _ _, fun a b c => h.nt _ _ _⟩
theorem STO.of_tot (irr : ∀ a, ¬ lt a a) (trans : ∀ a b c, lt a b → lt b c → lt a c) (tot : ∀ a b, a ≠ b → lt a b ∨ lt b a) : STO lt := by
  refine ⟨irr, trans, fun a b c h1 h2 h3 => ?_⟩
  by_cases q : a = b
  · subst q; exact h2 h3
  · rcases tot a b q with r | r
    · exact h2 (trans _ _ _ h3 r)
    · exact h1 r
variable [Inhabited α]
def pl (l : List α) (i : Nat) : α := l.getD i default
def par (i : Nat) : Nat := (i - 1) / 2
theorem par_lt {i : Nat} (h : 0 < i) : par i < i := by unfold par; omega
theorem par_eq {k i : Nat} (hk : 0 < k) : par k = i ↔ k = 2 * i + 1 ∨ k = 2 * i + 2 := by unfold par; omega
def swp (l : List α) (i j : Nat) : List α := (l.set i (pl l j)).set j (pl l i)
theorem swp_len (l : List α) (i j : Nat) : (swp l i j).length = l.length := by simp [swp]
theorem pl_set {l : List α} {i : Nat} (h : i < l.length) (a : α) (k : Nat) : pl (l.set i a) k = if k = i then a else pl l k := by
  unfold pl
  by_cases q : k = i
  · subst q; simp [List.getD, h]
  · rw [if_neg q]; simp [List.getD, List.getElem?_set_ne (Ne.symm q)]
theorem swp_at {l : List α} {i j : Nat} (hi : i < l.length) (hj : j < l.length) (k : Nat) : pl (swp l i j) k = if k = j then pl l i else if k = i then pl l j else pl l k := by
  unfold swp
  rw [pl_set (by simpa using hj), pl_set hi]
theorem pl_in {l : List α} {i : Nat} (h : i < l.length) : pl l i = l[i] := by unfold pl; simp [List.getD, h]
theorem swp_self (l : List α) (i : Nat) (h : i < l.length) : swp l i i = l := by
  apply List.ext_getElem (by simp [swp])
  intro k h1 h2
  have := swp_at h h k
  rw [pl_in h1, pl_in h2] at this
  rw [this]
  by_cases q : k = i
  · subst q; rw [if_pos rfl, pl_in h]
  · rw [if_neg q, if_neg q]
theorem swp_perm [DecidableEq α] {l : List α} {i j : Nat} (hi : i < l.length) (hj : j < l.length) : (swp l i j).Perm l := by
  by_cases q : i = j
  · subst q; rw [swp_self l i hi]
  · rw [List.perm_iff_count]
    intro a
    unfold swp
    rw [List.count_set (by simpa using hj), List.count_set hi]
    have e : (l.set i (pl l j))[j]'(by simpa using hj) = pl l j := by rw [List.getElem_set, if_neg q, pl_in hj]
    rw [e, pl_in hi, pl_in hj]
    have c1 : (if l[i] == a then 1 else 0) ≤ l.count a := by
      split
      · rename_i h; exact List.one_le_count_iff.2 (by rw [← (beq_iff_eq.1 h)]; exact List.getElem_mem hi)
      · exact Nat.zero_le _
    omega
/-- none comes before the one that it hangs on -/
def Hp (lt : α → α → Prop) (l : List α) (n : Nat) : Prop := ∀ k, 0 < k → k < n → ¬ lt (pl l k) (pl l (par k))
/-- all but what hangs at j -/
def Up (lt : α → α → Prop) (l : List α) (n j : Nat) : Prop := (∀ k, 0 < k → k < n → k ≠ j → ¬ lt (pl l k) (pl l (par k))) ∧ (∀ k, 0 < k → k < n → par k = j → 0 < j → ¬ lt (pl l k) (pl l (par j)))
/-- all but what hangs on i -/
def Dn (lt : α → α → Prop) (l : List α) (n i : Nat) : Prop := (∀ k, 0 < k → k < n → par k ≠ i → ¬ lt (pl l k) (pl l (par k))) ∧ (∀ k, 0 < k → k < n → par k = i → 0 < i → ¬ lt (pl l k) (pl l (par i)))
/-- all but what hangs at i or on i -/
def D0 (lt : α → α → Prop) (l : List α) (n i : Nat) : Prop := (∀ k, 0 < k → k < n → k ≠ i → par k ≠ i → ¬ lt (pl l k) (pl l (par k))) ∧ (∀ k, 0 < k → k < n → par k = i → 0 < i → ¬ lt (pl l k) (pl l (par i)))
theorem Up.step (o : STO lt) {l : List α} {n j : Nat} (h : Up lt l n j) (hn : n ≤ l.length) (hj : 0 < j) (hjn : j < n) (hl : lt (pl l j) (pl l (par j))) : Up lt (swp l (par j) j) n (par j) := by
  have hp := par_lt hj
  have hs := fun k => swp_at (l := l) (i := par j) (j := j) (by omega) (by omega) k
  refine ⟨fun k hk hkn hne => ?_, fun k hk hkn hkp hp0 => ?_⟩
  · rw [hs, hs]
    by_cases q : k = j
    · subst q
      rw [if_pos rfl, if_neg (by omega), if_pos rfl]
      exact o.asymm hl
    · rw [if_neg q, if_neg hne]
      by_cases r : par k = j
      · rw [if_pos r]
        exact h.2 k hk hkn r hj
      · rw [if_neg r]
        by_cases s : par k = par j
        · rw [if_pos s]
          have h1 := h.1 k hk hkn q
          rw [s] at h1
          exact o.le_trans (o.asymm hl) h1
        · rw [if_neg s]
          exact h.1 k hk hkn q
  · have hpp := par_lt hp0
    have h1 := h.1 (par j) hp0 (by omega) (by omega)
    rw [hs, hs, if_neg (show ¬ par (par j) = j by omega), if_neg (show ¬ par (par j) = par j by omega)]
    by_cases q : k = j
    · subst q; rw [if_pos rfl]; exact h1
    · rw [if_neg q]
      by_cases r : k = par j
      · rw [r] at hkp; omega
      · rw [if_neg r]
        have h2 := h.1 k hk hkn q
        rw [hkp] at h2
        exact o.le_trans h1 h2
theorem Up.fin {l : List α} {n j : Nat} (h : Up lt l n j) (hj : j = 0 ∨ ¬ lt (pl l j) (pl l (par j))) : Hp lt l n := by
  intro k hk hkn
  by_cases q : k = j
  · subst q
    rcases hj with r | r
    · omega
    · exact r
  · exact h.1 k hk hkn q
/-- j is the least of what hangs on i -/
def Least (lt : α → α → Prop) (l : List α) (n i j : Nat) : Prop := 0 < j ∧ j < n ∧ par j = i ∧ ∀ k, 0 < k → k < n → par k = i → ¬ lt (pl l k) (pl l j)
theorem D0.first (o : STO lt) {l : List α} {n i j : Nat} (h : D0 lt l n i) (hn : n ≤ l.length) (hj : Least lt l n i j) (hl : lt (pl l j) (pl l i)) : Dn lt (swp l i j) n j := by
  obtain ⟨hj0, hjn, hjp, hm⟩ := hj
  have hij : i < j := by have := par_lt hj0; omega
  have hs := fun k => swp_at (l := l) (i := i) (j := j) (by omega) (by omega) k
  refine ⟨fun k hk hkn hne => ?_, fun k hk hkn hkp _ => ?_⟩
  · rw [hs, hs]
    by_cases q : k = j
    · subst q
      rw [if_pos rfl, hjp, if_neg (by omega), if_pos rfl]
      exact o.asymm hl
    · rw [if_neg q]
      by_cases r : k = i
      · subst r
        rw [if_pos rfl, if_neg hne, if_neg (by have := par_lt hk; omega)]
        exact h.2 j hj0 hjn hjp hk
      · rw [if_neg r, if_neg hne]
        by_cases s : par k = i
        · rw [if_pos s]; exact hm k hk hkn s
        · rw [if_neg s]; exact h.1 k hk hkn r s
  · have hkj := par_lt hk
    rw [hs, hs, hjp, if_neg (show ¬ i = j by omega), if_pos rfl, if_neg (by omega), if_neg (by omega)]
    have := h.1 k hk hkn (by omega) (by omega)
    rw [hkp] at this
    exact this
theorem Dn.d0 {l : List α} {n i : Nat} (h : Dn lt l n i) : D0 lt l n i := ⟨fun k hk hkn _ h2 => h.1 k hk hkn h2, h.2⟩
theorem Dn.step (o : STO lt) {l : List α} {n i j : Nat} (h : Dn lt l n i) (hn : n ≤ l.length) (hj : Least lt l n i j) (hl : lt (pl l j) (pl l i)) : Dn lt (swp l i j) n j := h.d0.first o hn hj hl
theorem Dn.fin {l : List α} {n i : Nat} (h : Dn lt l n i) (hc : ∀ k, 0 < k → k < n → par k = i → ¬ lt (pl l k) (pl l i)) : Hp lt l n := by
  intro k hk hkn
  by_cases q : par k = i
  · rw [q]; exact hc k hk hkn q
  · exact h.1 k hk hkn q
theorem D0.fin {l : List α} {n i : Nat} (h : D0 lt l n i) (hc : ∀ k, 0 < k → k < n → par k = i → ¬ lt (pl l k) (pl l i)) : Up lt l n i := by
  refine ⟨fun k hk hkn hne => ?_, h.2⟩
  by_cases q : par k = i
  · rw [q]; exact hc k hk hkn q
  · exact h.1 k hk hkn hne q
/-- a heap with another entry at i -/
theorem Hp.d0 {l l' : List α} {n i : Nat} (o : STO lt) (h : Hp lt l n) (he : ∀ k, k ≠ i → pl l' k = pl l k) : D0 lt l' n i := by
  refine ⟨fun k hk hkn h1 h2 => ?_, fun k hk hkn h1 h2 => ?_⟩
  · rw [he k h1, he _ h2]; exact h k hk hkn
  · have hki := par_lt hk
    have hpi := par_lt h2
    rw [he k (by omega), he (par i) (by omega)]
    have a := h k hk hkn
    rw [h1] at a
    exact o.le_trans (h i h2 (by omega)) a
/-- the first is the least -/
theorem Hp.least (o : STO lt) {l : List α} {n : Nat} (h : Hp lt l n) : ∀ k, k < n → ¬ lt (pl l k) (pl l 0) := by
  intro k
  induction k using Nat.strongRecOn with
  | ind k ih =>
    intro hk
    by_cases q : k = 0
    · subst q; exact o.irr _
    · exact o.le_trans (ih (par k) (par_lt (by omega)) (by have := par_lt (i := k) (by omega); omega)) (h k (by omega) hk)
end
end Go.Proofs.Ytiaggddpoddbcaa.HeapMath
