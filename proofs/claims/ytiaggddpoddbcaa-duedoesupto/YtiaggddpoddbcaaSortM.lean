/- What Set and Drop make of the sorted list. -/
import Derived.Test.YtiaggddpoddbcaaRefS
import Derived.Test.YtiaggddpoddbcaaSetS
namespace Go.Proofs.Ytiaggddpoddbcaa.SortM
open Go.RowKit Go.Maps Go.Shelf
open Go.Proofs.Ytiaggddpoddbcaa.HeapMath
open Go.Proofs.Ytiaggddpoddbcaa.Before
open Go.Proofs.Ytiaggddpoddbcaa.RowB
open Go.Proofs.Ytiaggddpoddbcaa.SetS
open Go.Proofs.Ytiaggddpoddbcaa.RefD
open Go.Proofs.Ytiaggddpoddbcaa.RefS
set_option linter.unusedVariables false
set_option linter.unusedSimpArgs false
theorem ins_perm (x : Bs × Int) : ∀ S : Es, (ins x S).Perm (x :: S)
  | [] => List.Perm.refl _
  | y :: r => by
    rw [ins_cons]
    split
    · exact List.Perm.refl _
    · exact ((ins_perm x r).cons y).trans (List.Perm.swap x y r)
theorem ins_inc (x : Bs × Int) : ∀ {S : Es}, S.Pairwise ltS → (∀ y ∈ S, y ≠ x) → (ins x S).Pairwise ltS
  | [], _, _ => by
    unfold ins
    exact List.pairwise_singleton _ _
  | y :: r, h, hn => by
    rw [ins_cons]
    have K := ent_keys keysS
    split
    · rename_i hx
      refine List.pairwise_cons.2 ⟨fun z hz => ?_, h⟩
      rcases List.mem_cons.1 hz with rfl | hz
      · exact hx
      · exact K.trans _ _ _ hx ((List.pairwise_cons.1 h).1 z hz)
    · rename_i hx
      refine List.pairwise_cons.2 ⟨fun z hz => ?_, ins_inc x (List.pairwise_cons.1 h).2 (fun z hz => hn z (List.mem_cons_of_mem _ hz))⟩
      rcases List.mem_cons.1 ((ins_perm x r).mem_iff.1 hz) with rfl | hz
      · exact (K.tot _ _ (hn y List.mem_cons_self)).resolve_right hx
      · exact (List.pairwise_cons.1 h).1 z hz
theorem wo_no {S : Es} {k : Bs} (h : ∀ x ∈ S, x.1 ≠ k) : without S k = S := by
  unfold without
  exact List.filter_eq_self.2 fun x hx => by simp [h x hx]
theorem wo_perm {S T : Es} (k : Bs) (h : S.Perm T) : (without S k).Perm (without T k) := h.filter _
theorem wo_mem {S : Es} {k : Bs} : ∀ x ∈ without S k, x.1 ≠ k := fun x hx => by
  have := (List.mem_filter.1 hx).2
  simpa using this
/- an index has each key once -/
def Once (s : Es) : Prop := (s.map (·.1)).Nodup
theorem once_perm {s t : Es} (h : s.Perm t) (o : Once s) : Once t := (h.map _).nodup_iff.1 o
theorem once_app {s : Es} {x : Bs × Int} (o : Once (s ++ [x])) : Once s ∧ ∀ y ∈ s, y.1 ≠ x.1 := by
  unfold Once at o
  rw [List.map_append] at o
  have := List.nodup_append.1 o
  exact ⟨this.1, fun y hy e => this.2.2 _ (List.mem_map_of_mem hy) _ (by simp) e⟩
theorem set_sorted {s s' S : Es} {k : Bs} {t : Int} (hS : Sorted ltS s S) (o : Once s) (g : Given s k t s') : Sorted ltS s' (ins (k, t) (without S k)) ∧ Once s' := by
  have hw : ∃ s0, s'.Perm (s0 ++ [(k, t)]) ∧ (without S k).Perm s0 ∧ Once s0 ∧ ∀ y ∈ s0, y.1 ≠ k := by
    rcases g with ⟨x, s0, hx, hp, hs'⟩ | ⟨hno, hs'⟩
    · have o2 := once_app (once_perm hp.symm o)
      refine ⟨s0, hs', ?_, o2.1, fun y hy => by rw [← hx]; exact o2.2 y hy⟩
      refine (wo_perm k (hS.perm.trans hp.symm)).trans ?_
      unfold without
      rw [List.filter_append, List.filter_cons_of_neg (by simp [hx]), List.filter_nil, List.append_nil]
      rw [List.filter_eq_self.2 (fun y hy => by have := o2.2 y hy; rw [hx] at this; simp [this])]
    · exact ⟨s, hs', (wo_perm k hS.perm).trans (by rw [wo_no hno]), o, hno⟩
  obtain ⟨s0, h1, h2, h3, h4⟩ := hw
  refine ⟨⟨?_, ins_inc _ (hS.inc.sublist List.filter_sublist) (fun y hy e => wo_mem y hy (by rw [e]))⟩, ?_⟩
  · refine (ins_perm _ _).trans ((h2.cons _).trans (List.Perm.trans ?_ h1.symm))
    exact (List.perm_append_comm (l₁ := [(k, t)]) (l₂ := s0))
  · refine once_perm h1.symm ?_
    unfold Once
    rw [List.map_append]
    refine List.nodup_append.2 ⟨h3, by simp, fun a ha b hb e => ?_⟩
    obtain ⟨y, hy, rfl⟩ := List.mem_map.1 ha
    simp at hb
    exact h4 y hy (by rw [e, hb])
theorem drop_sorted {s s' S : Es} {k : Bs} {x : Bs × Int} (hS : Sorted ltS s S) (o : Once s) (hx : x.1 = k) (hp : (s' ++ [x]).Perm s) : Sorted ltS s' (without S k) ∧ Once s' ∧ (without S k).length < S.length := by
  have o2 := once_app (once_perm hp.symm o)
  have h2 : (without S k).Perm s' := by
    refine (wo_perm k (hS.perm.trans hp.symm)).trans ?_
    unfold without
    rw [List.filter_append, List.filter_cons_of_neg (by simp [hx]), List.filter_nil, List.append_nil]
    rw [List.filter_eq_self.2 (fun y hy => by have := o2.2 y hy; rw [hx] at this; simp [this])]
  refine ⟨⟨h2, hS.inc.sublist List.filter_sublist⟩, o2.1, ?_⟩
  have e1 := h2.length_eq
  have e2 := hS.perm.length_eq
  have e3 := hp.length_eq
  simp at e3
  omega
theorem drop_none {s S : Es} {k : Bs} (hS : Sorted ltS s S) (h : ∀ x ∈ s, x.1 ≠ k) : without S k = S := wo_no fun x hx => h x (hS.perm.mem_iff.1 hx)
theorem take_sorted {s S : Es} (hS : Sorted ltS s S) (o : Once s) (n : Nat) : Sorted ltS (S.drop n) (S.drop n) ∧ Once (S.drop n) := by
  refine ⟨⟨List.Perm.refl _, hS.inc.sublist (List.drop_sublist _ _)⟩, ?_⟩
  have := once_perm hS.perm.symm o
  unfold Once at *
  rw [List.map_drop]
  exact this.sublist (List.drop_sublist _ _)
end Go.Proofs.Ytiaggddpoddbcaa.SortM
