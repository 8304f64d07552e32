/- Names in their order. -/
import Derived.Test.YtilbffbmpgebmaaDiskMath
namespace Go.Proofs.Ytilbffbmpgebmaa.RefMath
open Go.Maps
open Go.Proofs.Ytilbffbmpgebmaa.DiskMath
set_option linter.unusedVariables false
theorem less_before : ∀ a b : Bs, Go.Op.bytesLess a b = bytesBefore a b
  | [], [] => rfl
  | [], _ :: _ => rfl
  | _ :: _, [] => rfl
  | a :: x, b :: y => by unfold Go.Op.bytesLess bytesBefore; rw [less_before x y]
theorem before_irr : ∀ a : Bs, bytesBefore a a = false
  | [] => rfl
  | a :: x => by
    unfold bytesBefore
    rw [before_irr x]
    simp
theorem before_trans : ∀ {a b c : Bs}, bytesBefore a b = true → bytesBefore b c = true → bytesBefore a c = true
  | [], [], _, h, _ => by cases h
  | [], _ :: _, [], _, h => by cases h
  | [], _ :: _, _ :: _, _, _ => rfl
  | _ :: _, [], _, h, _ => by cases h
  | _ :: _, _ :: _, [], _, h => by cases h
  | a :: x, b :: y, c :: z, h, k => by
    unfold bytesBefore at h k ⊢
    simp only [Bool.or_eq_true, Bool.and_eq_true, decide_eq_true_eq, beq_iff_eq] at h k ⊢
    rcases h with h | ⟨rfl, h⟩
    · rcases k with k | ⟨rfl, k⟩
      · exact Or.inl (UInt8.lt_trans h k)
      · exact Or.inl h
    · rcases k with k | ⟨rfl, k⟩
      · exact Or.inl k
      · exact Or.inr ⟨rfl, before_trans h k⟩
theorem before_tri : ∀ {a b : Bs}, a ≠ b → bytesBefore a b = false → bytesBefore b a = true
  | [], [], h, _ => absurd rfl h
  | [], _ :: _, _, h => by cases h
  | _ :: _, [], _, _ => rfl
  | a :: x, b :: y, h, k => by
    unfold bytesBefore at k ⊢
    simp only [Bool.or_eq_false_iff, Bool.and_eq_false_iff, decide_eq_false_iff_not, Bool.or_eq_true, Bool.and_eq_true, decide_eq_true_eq, beq_iff_eq, beq_eq_false_iff_ne] at k ⊢
    obtain ⟨k1, k2⟩ := k
    by_cases e : a = b
    · subst e
      right
      refine ⟨rfl, before_tri (fun q => h (by rw [q])) ?_⟩
      rcases k2 with q | q
      · exact absurd rfl q
      · exact q
    · left
      rcases UInt8.lt_or_lt_of_ne e with q | q
      · exact absurd q k1
      · exact q
theorem before_asym {a b : Bs} (h : bytesBefore a b = true) : bytesBefore b a = false := by
  cases hb : bytesBefore b a with
  | false => rfl
  | true => have := before_trans h hb; rw [before_irr] at this; cases this
def Rise (l : NL) : Prop := l.Pairwise fun p q => bytesBefore p.1 q.1 = true
theorem rise_nil : Rise [] := List.Pairwise.nil
theorem rise_wout {l : NL} (h : Rise l) (k : Bs) : Rise (wout l k) := List.Pairwise.filter _ h
theorem wout_ne {l : NL} {k : Bs} {p : Bs × Nat} (h : p ∈ wout l k) : p.1 ≠ k := by
  have := (List.mem_filter.1 h).2
  simpa using this
theorem ins_has (x : Bs × Nat) : ∀ l : NL, x ∈ insL x l
  | [] => List.mem_singleton.2 rfl
  | y :: r => by
    unfold insL
    split
    · exact List.mem_cons_self
    · exact List.mem_cons_of_mem _ (ins_has x r)
theorem rise_ins {x : Bs × Nat} : ∀ {l : NL}, Rise l → (∀ p ∈ l, p.1 ≠ x.1) → Rise (insL x l)
  | [], _, _ => List.pairwise_singleton _ _
  | y :: r, h, hne => by
    have h' := List.pairwise_cons.1 h
    unfold insL
    split
    · rename_i hb
      refine List.pairwise_cons.2 ⟨fun q hq => ?_, h⟩
      rcases List.mem_cons.1 hq with rfl | hq
      · exact hb
      · exact before_trans hb (h'.1 q hq)
    · rename_i hb
      refine List.pairwise_cons.2 ⟨fun q hq => ?_, rise_ins h'.2 (fun p hp => hne p (List.mem_cons_of_mem _ hp))⟩
      rcases ins_mem hq with rfl | hq
      · exact before_tri (fun e => hne y List.mem_cons_self e.symm) (by simpa using hb)
      · exact h'.1 q hq
theorem rise_with {l : NL} (h : Rise l) (k : Bs) (f : Nat) : Rise (withL l k f) := rise_ins (rise_wout h k) (fun p hp => wout_ne hp)
theorem rise_on {l : NL} (h : Rise l) (c : Ch) : Rise (c.on l) := by
  cases c with
  | make k f => exact rise_with h k f
  | move a b f => exact rise_with (rise_wout h a) b f
  | drop k => exact rise_wout h k
theorem rise_all : ∀ (cs : List Ch) {l : NL}, Rise l → Rise (applyAll cs l)
  | [], _, h => h
  | c :: r, _, h => rise_all r (rise_on h c)
/- where a name comes in -/
theorem ins_app {x y : Bs × Nat} {r : NL} : ∀ {a : NL}, (∀ p ∈ a, bytesBefore x.1 p.1 = false) → bytesBefore x.1 y.1 = true → insL x (a ++ y :: r) = a ++ x :: y :: r
  | [], _, hy => by
    show insL x (y :: r) = _
    unfold insL
    rw [if_pos hy]
    rfl
  | p :: a, h, hy => by
    show insL x (p :: (a ++ y :: r)) = _
    unfold insL
    rw [if_neg (by rw [h p List.mem_cons_self]; decide), ins_app (fun q hq => h q (List.mem_cons_of_mem _ hq)) hy]
    rfl
theorem ins_end {x : Bs × Nat} : ∀ {a : NL}, (∀ p ∈ a, bytesBefore x.1 p.1 = false) → insL x a = a ++ [x]
  | [], _ => rfl
  | p :: a, h => by
    unfold insL
    rw [if_neg (by rw [h p List.mem_cons_self]; decide), ins_end (fun q hq => h q (List.mem_cons_of_mem _ hq))]
    rfl
theorem ins_snoc {x y : Bs × Nat} : ∀ {a : NL}, (∃ p ∈ a, bytesBefore x.1 p.1 = true) → insL x (a ++ [y]) = insL x a ++ [y]
  | [], h => by obtain ⟨p, hp, _⟩ := h; cases hp
  | q :: a, h => by
    show insL x (q :: (a ++ [y])) = _
    unfold insL
    by_cases hq : bytesBefore x.1 q.1 = true
    · rw [if_pos hq, if_pos hq]; rfl
    · rw [if_neg hq, if_neg hq, ins_snoc]
      · rfl
      · obtain ⟨p, hp, hb⟩ := h
        rcases List.mem_cons.1 hp with rfl | hp
        · exact absurd hb hq
        · exact ⟨p, hp, hb⟩
theorem ins_last {x : Bs × Nat} {a : NL} {y : Bs × Nat} (h : bytesBefore x.1 y.1 = true) : ∃ b, insL x (a ++ [y]) = b ++ [y] ∧ b.length = a.length + 1 := by
  by_cases hq : ∃ p ∈ a, bytesBefore x.1 p.1 = true
  · exact ⟨insL x a, ins_snoc hq, ins_len x a⟩
  · refine ⟨a ++ [x], ?_, by simp⟩
    rw [ins_app (a := a) (r := []) (fun p hp => ?_) h, List.append_assoc]
    · rfl
    · cases hb : bytesBefore x.1 p.1 with
      | false => rfl
      | true => exact absurd ⟨p, hp, hb⟩ hq
/- what has been laid when i names are gone over -/
inductive Wi (x : Bs × Nat) (l : NL) : Nat → NL → Prop
  | no (i : Nat) : i ≤ l.length → (∀ p ∈ l.take i, bytesBefore x.1 p.1 = false) → Wi x l i (l.take i)
  | yes (i : Nat) (h : i < l.length) : bytesBefore x.1 (l[i]).1 = true → Wi x l (i + 1) (insL x (l.take (i + 1)))
theorem take_snoc {α : Type} (l : List α) (i : Nat) (h : i < l.length) : l.take (i + 1) = l.take i ++ [l[i]] := List.take_succ_eq_append_getElem h
theorem rise_before {l : NL} (h : Rise l) {i j : Nat} (hj : j < l.length) (hi : i < j) : bytesBefore (l[i]'(by omega)).1 (l[j]).1 = true := by
  exact (List.pairwise_iff_getElem.1 h) i j (by omega) hj hi
theorem wi_zero (x : Bs × Nat) (l : NL) : Wi x l 0 [] := Wi.no 0 (Nat.zero_le _) (fun p hp => by simp at hp)
theorem wi_cases {x : Bs × Nat} {l : NL} {k : Nat} {out : NL} (h : Wi x l k out) : (out = l.take k ∧ k ≤ l.length ∧ ∀ p ∈ l.take k, bytesBefore x.1 p.1 = false) ∨ ∃ i, ∃ hi : i < l.length, k = i + 1 ∧ out = insL x (l.take (i + 1)) ∧ bytesBefore x.1 (l[i]).1 = true := by
  cases h with
  | no i h1 h2 => exact Or.inl ⟨rfl, h1, h2⟩
  | yes i h1 h2 => exact Or.inr ⟨i, h1, rfl, rfl, h2⟩
/- a name that comes behind: nothing is laid ahead of it -/
theorem wi_skip {x : Bs × Nat} {l : NL} {k : Nat} {out : NL} (h : Wi x l k out) (hr : Rise l) (hk : k < l.length) (hb : bytesBefore x.1 (l[k]).1 = false) : Wi x l (k + 1) (out ++ [l[k]]) ∧ out.length ≤ k := by
  rcases wi_cases h with ⟨rfl, h1, h2⟩ | ⟨i, hi, rfl, rfl, h2⟩
  · refine ⟨?_, by rw [List.length_take]; omega⟩
    rw [← take_snoc l k hk]
    refine Wi.no (k + 1) hk fun q hq => ?_
    rw [take_snoc l k hk] at hq
    rcases List.mem_append.1 hq with q1 | q1
    · exact h2 q q1
    · rw [List.mem_singleton.1 q1]; exact hb
  · have := before_trans h2 (rise_before hr hk (i := i) (by omega))
    rw [hb] at this
    cases this
/- it is laid here -/
theorem wi_here {x : Bs × Nat} {l : NL} {k : Nat} (hk : k < l.length) (h : ∀ p ∈ l.take k, bytesBefore x.1 p.1 = false) (hb : bytesBefore x.1 (l[k]).1 = true) : Wi x l (k + 1) ((l.take k ++ [x]) ++ [l[k]]) := by
  have e : insL x (l.take (k + 1)) = (l.take k ++ [x]) ++ [l[k]] := by
    rw [take_snoc l k hk, ins_app (r := []) h hb, List.append_assoc]
    rfl
  rw [← e]
  exact Wi.yes k hk hb
/- it was laid ahead -/
theorem wi_past {x : Bs × Nat} {l : NL} {i : Nat} (hi : i + 1 < l.length) (h : bytesBefore x.1 (l[i]).1 = true) (hb : bytesBefore x.1 (l[i + 1]).1 = true) : Wi x l (i + 2) (insL x (l.take (i + 1)) ++ [l[i + 1]]) ∧ ∃ b, insL x (l.take (i + 1)) = b ++ [l[i]] ∧ b.length = i + 1 := by
  refine ⟨?_, ?_⟩
  · have e : insL x (l.take (i + 1 + 1)) = insL x (l.take (i + 1)) ++ [l[i + 1]] := by
      rw [take_snoc l (i + 1) hi, ins_snoc ⟨l[i], by rw [take_snoc l i (by omega)]; exact List.mem_append_right _ (List.mem_singleton.2 rfl), h⟩]
    rw [← e]
    exact Wi.yes (i + 1) hi hb
  · obtain ⟨b, h1, h2⟩ := ins_last (a := l.take i) h
    rw [← take_snoc l i (by omega)] at h1
    exact ⟨b, h1, by rw [h2, List.length_take]; omega⟩
theorem wi_end {x : Bs × Nat} {l : NL} {out : NL} (h : Wi x l l.length out) : (out = l ∧ insL x l = l ++ [x]) ∨ (out = insL x l ∧ out.length = l.length + 1) := by
  rcases wi_cases h with ⟨h0, h1, h2⟩ | ⟨i, hi, h0, h1, h2⟩
  · rw [List.take_length] at h0 h2
    exact Or.inl ⟨h0, ins_end h2⟩
  · rw [← h0, List.take_length] at h1
    exact Or.inr ⟨h1, by rw [h1, ins_len]⟩
end Go.Proofs.Ytilbffbmpgebmaa.RefMath
