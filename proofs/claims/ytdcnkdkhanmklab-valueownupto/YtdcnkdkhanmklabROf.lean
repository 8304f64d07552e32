/- The document's Of: each element put where it belongs. -/
import Derived.Test.YtdcnkdkhanmklabSmall
namespace Go.Proofs.Ytdcnkdkhanmklab.ROf
open Go.RowKit Go.Sort
open Go.Proofs.Ytdcnkdkhanmklab.SetMath
open Go.Proofs.Ytdcnkdkhanmklab.Base
open Go.Proofs.Ytdcnkdkhanmklab.Small
set_option linter.unusedVariables false
set_option linter.unusedSimpArgs false
/-- a row that there is -/
def RW (B : Nat) (w : World) (g c : Nat) (l : List El) : Prop := B ≤ g ∧ ∃ cur, w.heap[g]? = some (.cells cur 9 (0, 0)) ∧ cur.size = c ∧ l.length ≤ c ∧ cur.toList.take l.length = l.map V
theorem NR.row {B : Nat} {w : World} {v : Value} {l : List El} (h : NR B w v l) (hl : 0 < l.length) : ∃ g c, v = .slice (some ⟨g, 0, none⟩) l.length c ∧ RW B w g c l := by
  rcases h with ⟨rfl, rfl⟩ | ⟨g, c, cur, rfl, r⟩
  · simp at hl
  · exact ⟨g, c, rfl, r.1, cur, r.2⟩
theorem RW.nr {B : Nat} {w : World} {g c : Nat} {l : List El} (h : RW B w g c l) : NR B w (.slice (some ⟨g, 0, none⟩) l.length c) l := by
  obtain ⟨h1, cur, h2⟩ := h
  exact .inr ⟨g, c, cur, rfl, h1, h2⟩
theorem RW.cell {B : Nat} {w : World} {g c : Nat} {l : List El} (h : RW B w g c l) {j : Nat} {x : El} (hj : l[j]? = some x) : w.cell? ⟨g, j, none⟩ = some (.string (mk x)) := by
  obtain ⟨h1, cur, h2, h3, h4, h5⟩ := h
  rw [Lib.cell_of_heap h2]
  exact row_at h5 hj
theorem RW.frozen {B : Nat} {w : World} {g c : Nat} {l : List El} (h : RW B w g c l) (j : Nat) : w.frozen? ⟨g, j, none⟩ = false := by
  obtain ⟨h1, cur, h2, _⟩ := h
  exact Lib.frozen_of_heap h2 j
theorem RW.drewN {B : Nat} {w : World} {g c : Nat} {l : List El} (h : RW B w g c l) (n : Nat) : RW B (w.drewN n) g c l := h
theorem RW.len {B : Nat} {w : World} {g c : Nat} {l : List El} (h : RW B w g c l) : l.length ≤ c := by
  obtain ⟨h1, cur, h2, h3, h4, h5⟩ := h
  exact h4
theorem RW.set {B : Nat} {w : World} {g c : Nat} {l : List El} (h : RW B w g c l) (j : Nat) (y : El) : RW B (w.setCell ⟨g, j, none⟩ (.string (mk y))) g c (l.set j y) := by
  obtain ⟨h1, cur, h2, h3, h4, h5⟩ := h
  refine ⟨h1, _, set_at h2 _, by simpa using h3, by simpa using h4, ?_⟩
  rw [Array.toList_setIfInBounds, List.length_set, List.map_set, ← h5, List.take_set]
theorem RW.set_below {B : Nat} {w : World} {g c : Nat} {l : List El} (h : RW B w g c l) (j : Nat) (v : Value) : Below B w (w.setCell ⟨g, j, none⟩ v) := (Below.refl B w).setCell h.1 v
theorem ins_pos (x : Bs) : ∀ {out : List Bs}, Ris out → ∃ P, P ≤ out.length ∧ (∀ j (h : j < out.length), j < P → ¬ x < out[j]) ∧ ∀ j (h : j < out.length), P ≤ j → x < out[j]
  | [], _ => ⟨0, by simp, fun j h => by simp at h, fun j h => by simp at h⟩
  | a :: r, hr => by
    by_cases q : x < a
    · refine ⟨0, by simp, fun j _ h => by omega, fun j h _ => ?_⟩
      cases j with
      | zero => exact q
      | succ j => exact List.lt_trans q (hr.head _ (List.getElem_mem (by simpa using h)))
    · obtain ⟨P, h1, h2, h3⟩ := ins_pos x hr.tail
      refine ⟨P + 1, by simp; omega, fun j h hj => ?_, fun j h hj => ?_⟩
      · cases j with
        | zero => exact q
        | succ j => exact h2 j (by simpa using h) (by omega)
      · cases j with
        | zero => omega
        | succ j => exact h3 j (by simpa using h) (by omega)
theorem ins_S {t out : List Bs} {x : Bs} {P : Nat} (ho : S t = out) (hP : P ≤ out.length) (h2 : ∀ j (h : j < out.length), j < P → ¬ x < out[j]) (h3 : ∀ j (h : j < out.length), P ≤ j → x < out[j]) (hn : ∀ (h : P - 1 < out.length), 0 < P → out[P - 1] ≠ x) : S (t ++ [x]) = out.take P ++ x :: out.drop P := by
  have hr : Ris out := ho ▸ ris_S t
  refine S_is ?_ fun z => ?_
  · refine List.pairwise_append.2 ⟨hr.sub (List.take_sublist _ _), List.pairwise_cons.2 ⟨fun z hz => ?_, hr.sub (List.drop_sublist _ _)⟩, fun u hu v hv => ?_⟩
    · obtain ⟨j, hj, rfl⟩ := List.getElem_of_mem hz
      rw [List.length_drop] at hj
      rw [List.getElem_drop]
      exact h3 _ (by omega) (by omega)
    · obtain ⟨j, hj, rfl⟩ := List.getElem_of_mem hu
      rw [List.length_take] at hj
      rw [List.getElem_take]
      have hjx : out[j] < x := by
        have q1 : ¬ x < out[j] := h2 j (by omega) (by omega)
        have q2 : out[j] ≠ x := by
          rcases Nat.lt_or_ge j (P - 1) with q | q
          · have q3 : ¬ x < out[P - 1] := h2 (P - 1) (by omega) (by omega)
            have q4 := ris_at hr q (by omega)
            intro e
            rw [e] at q4
            exact q3 q4
          · have := hn (by omega) (by omega)
            have e : j = P - 1 := by omega
            subst e
            exact this
        rcases lt_tot out[j] x with q | q | q
        · exact q
        · exact absurd q q2
        · exact absurd q q1
      rcases List.mem_cons.1 hv with rfl | hv
      · exact hjx
      · obtain ⟨i, hi, rfl⟩ := List.getElem_of_mem hv
        rw [List.length_drop] at hi
        rw [List.getElem_drop]
        exact List.lt_trans hjx (h3 _ (by omega) (by omega))
  · rw [List.mem_append, List.mem_cons, List.mem_append, List.mem_singleton, ← mem_S (l := t), ho]
    constructor
    · rintro (h | h | h)
      · exact .inl (List.mem_of_mem_take h)
      · exact .inr h
      · exact .inl (List.mem_of_mem_drop h)
    · rintro (h | h)
      · rw [← List.take_append_drop P out, List.mem_append] at h
        rcases h with h | h
        · exact .inl h
        · exact .inr (.inr h)
      · exact .inr (.inl h)
theorem has_S {t out : List Bs} {x : Bs} (ho : S t = out) (h : x ∈ out) : S (t ++ [x]) = out := by
  rw [← ho]
  refine S_ext fun z => ?_
  rw [List.mem_append, List.mem_singleton]
  constructor
  · rintro (q | rfl)
    · exact q
    · rw [← mem_S, ho]; exact h
  · exact .inl
theorem shift_set {out : List Bs} {q : Bs} {k : Nat} (h : k < out.length) : (out.take (k + 1) ++ q :: out.drop (k + 1)).set (k + 1) out[k] = out.take k ++ out[k] :: out.drop k := by
  have hl : (out.take (k + 1)).length = k + 1 := by rw [List.length_take]; omega
  rw [List.set_append_right _ _ (by omega), hl, Nat.sub_self, List.set_cons_zero, List.take_succ_eq_append_getElem h, List.append_assoc, List.drop_eq_getElem_cons h]
  rfl
theorem last_set {out : List Bs} {q x : Bs} {k : Nat} (h : k ≤ out.length) : (out.take k ++ q :: out.drop k).set k x = out.take k ++ x :: out.drop k := by
  have hl : (out.take k).length = k := by rw [List.length_take]; omega
  rw [List.set_append_right _ _ (by omega), hl, Nat.sub_self, List.set_cons_zero]
theorem at_low {out : List Bs} {q : Bs} {k : Nat} (h : k < out.length) : (out.take (k + 1) ++ q :: out.drop (k + 1))[k]? = some out[k] := by
  have hl : (out.take (k + 1)).length = k + 1 := by rw [List.length_take]; omega
  rw [List.getElem?_append_left (by omega), List.getElem?_take, if_pos (by omega), List.getElem?_eq_getElem h]
theorem mid_len {out : List Bs} {q : Bs} {k : Nat} (h : k ≤ out.length) : (out.take k ++ q :: out.drop k).length = out.length + 1 := by
  simp; omega
end Go.Proofs.Ytdcnkdkhanmklab.ROf
