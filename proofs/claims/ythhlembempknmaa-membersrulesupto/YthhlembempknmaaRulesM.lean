/- What follows of sets for MembersRules; calls of two and three lists that are laid side by side. -/
import Derived.Test.YthhlembempknmaaSets
namespace Go.Proofs.Ythhlembempknmaa.RulesM
open Go.RowKit Go.Sort
open Go.Proofs.Ythhlembempknmaa.SetMath
open Go.Proofs.Ythhlembempknmaa.Base
open Go.Proofs.Ythhlembempknmaa.Small
open Go.Proofs.Ythhlembempknmaa.Lists
open Go.Proofs.Ythhlembempknmaa.Code
open Go.Proofs.Ythhlembempknmaa.RefK
open Go.Proofs.Ythhlembempknmaa.Sets
set_option linter.unusedVariables false
set_option linter.unusedSimpArgs false
theorem uni_turn (a b c : List Bs) : uni [a, b, c] = uni [c, b, a] := by
  refine ris_ext (ris_uni _) (ris_uni _) fun x => ?_
  rw [mem_uni, mem_uni]
  simp
  constructor
  · rintro (h | h | h) <;> simp [h]
  · rintro (h | h | h) <;> simp [h]
theorem inter_turn (a b c : List Bs) : inter [a, b, c] = inter [c, a, b] := by
  refine ris_ext (ris_inter _) (ris_inter _) fun x => ?_
  rw [mem_inter, mem_inter]
  simp
  constructor
  · rintro ⟨h1, h2, h3⟩; exact ⟨h3, h1, h2⟩
  · rintro ⟨h1, h2, h3⟩; exact ⟨h2, h3, h1⟩
theorem mem_alone {a b : List Bs} {x : Bs} : x ∈ diff [a, b] ↔ x ∈ a ∧ x ∉ b := by rw [mem_diff]; simp
theorem mem_both {a b : List Bs} {x : Bs} : x ∈ inter [a, b] ↔ x ∈ a ∧ x ∈ b := by rw [mem_inter]; simp
theorem none_both (a b : List Bs) : inter [diff [a, b], inter [a, b]] = [] := by
  refine List.eq_nil_iff_forall_not_mem.2 fun x hx => ?_
  rw [mem_both, mem_alone, mem_both] at hx
  exact hx.1.2 hx.2.2
theorem all_parts (a b : List Bs) : uni [diff [a, b], inter [a, b]] = S a := by
  refine ris_ext (ris_uni _) (ris_S _) fun x => ?_
  rw [mem_uni, mem_S]
  simp only [List.mem_cons, List.not_mem_nil, or_false, exists_eq_or_imp, exists_eq_left]
  rw [mem_alone, mem_both]
  constructor
  · rintro (h | h)
    · exact h.1
    · exact h.1
  · intro h
    by_cases q : x ∈ b
    · exact .inr ⟨h, q⟩
    · exact .inl ⟨h, q⟩
theorem part_len (l : List Bs) (b : List Bs) : (l.filter fun x => decide (x ∉ b)).length + (l.filter fun x => decide (x ∈ b)).length = l.length := by
  induction l with
  | nil => rfl
  | cons x r ih =>
    by_cases q : x ∈ b
    · simp [q] at ih ⊢
      omega
    · simp [q] at ih ⊢
      omega
theorem alone_is (a b : List Bs) : diff [a, b] = (S a).filter fun x => decide (x ∉ b) := diff_two a b
theorem both_is (a b : List Bs) : inter [a, b] = (S a).filter fun x => decide (x ∈ b) := by
  show (S a).filter (fun x => [b].all fun m => decide (x ∈ m)) = _
  congr 1
  funext x
  simp
theorem lens (a b : List Bs) : (diff [a, b]).length + (inter [a, b]).length = (S a).length := by
  rw [alone_is, both_is]
  exact part_len _ _
theorem S_S (l : List Bs) : S (S l) = S l := S_self (ris_S l)
theorem left_is (a b : List Bs) : dif (S (a ++ b)) b = diff [a, b] := by
  unfold dif
  rw [S_S, alone_is]
  refine ris_ext ((ris_S _).filter _) ((ris_S _).filter _) fun x => ?_
  rw [List.mem_filter, List.mem_filter, mem_S, mem_S, List.mem_append]
  simp only [decide_eq_true_eq]
  constructor
  · rintro ⟨h1, h2⟩
    exact ⟨h1.resolve_right h2, h2⟩
  · rintro ⟨h1, h2⟩
    exact ⟨.inl h1, h2⟩
theorem gone_len (a b : List Bs) : (dif (S (a ++ b)) b).length + (S b).length = (S (S (a ++ b))).length := by
  have h1 := part_len (S (a ++ b)) b
  have h2 : (S (a ++ b)).filter (fun x => decide (x ∈ b)) = S b := ris_ext ((ris_S _).filter _) (ris_S _) fun x => by
    rw [List.mem_filter, mem_S, mem_S, List.mem_append]
    simp only [decide_eq_true_eq]
    exact ⟨fun h => h.2, fun h => ⟨.inr h, h⟩⟩
  rw [h2] at h1
  unfold dif
  rw [S_S]
  exact h1
theorem grow_len (a b : List Bs) : (S a).length ≤ (S (a ++ b)).length := by
  have h1 := part_len (S (a ++ b)) a
  have h2 : (S (a ++ b)).filter (fun x => decide (x ∈ a)) = S a := ris_ext ((ris_S _).filter _) (ris_S _) fun x => by
    rw [List.mem_filter, mem_S, mem_S, List.mem_append]
    simp only [decide_eq_true_eq]
    exact ⟨fun h => h.2, fun h => ⟨.inl h, h⟩⟩
  rw [h2] at h1
  omega
abbrev TT : Nat → Prop := fun _ => True
theorem SL.any {G : Nat → Prop} {w : World} {v : Value} {l : List El} (h : SL G w v l) : SL TT w v l := h.mono fun _ _ _ => trivial
theorem ll_three {w : World} {u1 u2 u3 : Value} {l1 l2 l3 : List El} (h1 : SL TT w u1 l1) (h2 : SL TT w u2 l2) (h3 : SL TT w u3 l3) : LL TT (w.alloc (.cells #[u1, u2, u3] 22)) (some ⟨w.heap.size, 0, none⟩) [l1, l2, l3] [u1, u2, u3] :=
  ll_new (G := TT) rfl fun j x y k1 k2 => by
    match j with
    | 0 => cases k1; cases k2; exact h1
    | 1 => cases k1; cases k2; exact h2
    | 2 => cases k1; cases k2; exact h3
    | j + 3 => simp at k1
/-- what a call that gives a list tells -/
def Tells (w : World) (l : List El) (e : Ending) (w' : World) : Prop := ∃ r, e = .returned r ∧ NR w.heap.size w' r l ∧ Below w.heap.size w w'
theorem Tells.of {w : World} {o : Obj} {l : List El} {e : Ending} {w' : World} (h : ∃ r, e = .returned r ∧ NR (w.alloc o).heap.size w' r l ∧ Below (w.alloc o).heap.size (w.alloc o) w') : Tells w l e w' := by
  obtain ⟨r, h1, h2, h3⟩ := h
  have b0 := (Below.refl w.heap.size w).alloc (Nat.le_refl _) o
  exact ⟨r, h1, h2.mono b0.size, bel b0 h3 (Nat.le_refl _)⟩
theorem union3 {w : World} {u1 u2 u3 : Value} {l1 l2 l3 : List El} (h1 : SL TT w u1 l1) (h2 : SL TT w u2 l2) (h3 : SL TT w u3 l3) (hb : (l1.length + l2.length + l3.length) * 16 ≤ 140737488355328) : Calls Try.prog 23 #[.slice (some ⟨w.heap.size, 0, none⟩) 3 3] (w.alloc (.cells #[u1, u2, u3] 22)) (Tells w (uni [l1, l2, l3])) :=
  (union_call (c := 3) (ll_three h1 h2 h3) (by simp) (by simp) (by simp [tot]; omega)).mono fun _ _ h => Tells.of h
theorem inter3 {w : World} {u1 u2 u3 : Value} {l1 l2 l3 : List El} (h1 : SL TT w u1 l1) (h2 : SL TT w u2 l2) (h3 : SL TT w u3 l3) (hb : (l1.length + l2.length + l3.length) * 16 ≤ 140737488355328) : Calls Try.prog 25 #[.slice (some ⟨w.heap.size, 0, none⟩) 3 3] (w.alloc (.cells #[u1, u2, u3] 22)) (Tells w (inter [l1, l2, l3])) :=
  (inter_call (c := 3) (ll_three h1 h2 h3) (by simp) (by simp) (by simp [tot]; omega)).mono fun _ _ h => Tells.of h
theorem union2 {w : World} {u1 u2 : Value} {l1 l2 : List El} (h1 : SL TT w u1 l1) (h2 : SL TT w u2 l2) (hb : (l1.length + l2.length) * 16 ≤ 140737488355328) : Calls Try.prog 23 #[.slice (some ⟨w.heap.size, 0, none⟩) 2 2] (w.alloc (.cells #[u1, u2] 22)) (Tells w (uni [l1, l2])) :=
  (union_call (c := 2) (ll_two h1 h2) (by simp) (by simp) (by simp [tot]; omega)).mono fun _ _ h => Tells.of h
theorem inter2 {w : World} {u1 u2 : Value} {l1 l2 : List El} (h1 : SL TT w u1 l1) (h2 : SL TT w u2 l2) (hb : (l1.length + l2.length) * 16 ≤ 140737488355328) : Calls Try.prog 25 #[.slice (some ⟨w.heap.size, 0, none⟩) 2 2] (w.alloc (.cells #[u1, u2] 22)) (Tells w (inter [l1, l2])) :=
  (inter_call (c := 2) (ll_two h1 h2) (by simp) (by simp) (by simp [tot]; omega)).mono fun _ _ h => Tells.of h
theorem diff2 {w : World} {u1 u2 : Value} {l1 l2 : List El} (h1 : SL TT w u1 l1) (h2 : SL TT w u2 l2) (hb : (l1.length + l2.length) * 16 ≤ 140737488355328) : Calls Try.prog 27 #[.slice (some ⟨w.heap.size, 0, none⟩) 2 2] (w.alloc (.cells #[u1, u2] 22)) (Tells w (diff [l1, l2])) :=
  (diff_call (c := 2) (ll_two h1 h2) (by simp) (by simp) (by simp [tot]; omega)).mono fun _ _ h => Tells.of h
end Go.Proofs.Ythhlembempknmaa.RulesM
