/- The map that tells the place of each key: what a swap, a push, a pop and a new tick leave of it; over any keys. -/
import Derived.Test.YtiaggddpoddbcaaHeap2
import Derived.Maps.OwnSet
namespace Go.Proofs.Ytiaggddpoddbcaa.Spots
open Go.RowKit Go.Maps
open Go.Proofs.Ytiaggddpoddbcaa.HeapMath
open Go.Proofs.Ytiaggddpoddbcaa.Heap
set_option linter.unusedVariables false
set_option linter.unusedSimpArgs false
section
variable {κ : Type} [Inhabited κ] {lit : κ → Lit}
/-- keys as the map reads them -/
structure Lits (lit : κ → Lit) : Prop where
  inj : ∀ a b, lit a = lit b → a = b
  key : ∀ a, WideAt.IsKeyLit (lit a)
structure Spots (lit : κ → Lit) (D : DataW Unit) (l : List (κ × Int)) : Prop where
  size : Maps.size D = l.length
  some : ∀ i, i < l.length → Maps.has D (lit (pl l i).1) = true ∧ ∀ z, D.atKey (lit (pl l i).1) z = .lit (.int .i64 (i : Int))
  none : ∀ k, (∀ i, i < l.length → (pl l i).1 ≠ k) → Maps.has D (lit k) = false
/-- no key stands twice -/
def Apart (l : List (κ × Int)) : Prop := ∀ i j, i < l.length → j < l.length → (pl l i).1 = (pl l j).1 → i = j
abbrev num (i : Nat) : DataW Unit := .lit (.int .i64 (i : Int))
theorem Apart.swp {l : List (κ × Int)} (h : Apart l) {i j : Nat} (hi : i < l.length) (hj : j < l.length) : Apart (swp l i j) := by
  intro a b ha hb e
  rw [swp_len] at ha hb
  rw [swp_at hi hj, swp_at hi hj] at e
  by_cases a1 : a = j <;> by_cases a2 : a = i <;> by_cases b1 : b = j <;> by_cases b2 : b = i <;> simp only [a1, a2, b1, b2, if_true, if_false] at e <;> (try subst a1) <;> (try subst a2) <;> (try subst b1) <;> (try subst b2) <;> (try rfl) <;> (try simp_all) <;> (have := h _ _ (by assumption) (by assumption) e; omega)
theorem Spots.swp {D : DataW Unit} {l : List (κ × Int)} (h : Spots lit D l) (L : Lits lit) (T : Tidy D) (A : Apart l) {i j : Nat} (hi : i < l.length) (hj : j < l.length) :
    Spots lit ((D.put (lit (pl l j).1) (num i)).put (lit (pl l i).1) (num j)) (swp l i j) ∧ Tidy ((D.put (lit (pl l j).1) (num i)).put (lit (pl l i).1) (num j)) := by
  have T1 := T.put (L.key (pl l j).1) (num i)
  have T2 := T1.put (L.key (pl l i).1) (num j)
  refine ⟨⟨?_, fun k hk => ?_, fun k hk => ?_⟩, T2⟩
  · have h1 : Maps.has (D.put (lit (pl l j).1) (num i)) (lit (pl l i).1) = true := by
      by_cases q : lit (pl l i).1 = lit (pl l j).1
      · rw [q]; exact has_put_same T.isMap (L.key _) _
      · rw [has_put_other q]; exact (h.some i hi).1
    rw [size_put T1, if_pos h1, size_put T, if_pos (h.some j hj).1, swp_len]
    exact h.size
  · rw [swp_len] at hk
    rw [swp_at hi hj]
    by_cases q1 : k = j
    · subst q1
      rw [if_pos rfl]
      exact ⟨has_put_same T1.isMap (L.key _) _, fun z => atKey_put_same T1.isMap (L.key _) _ z⟩
    · rw [if_neg q1]
      by_cases q2 : k = i
      · subst q2
        rw [if_pos rfl]
        have ne : lit (pl l j).1 ≠ lit (pl l k).1 := fun e => q1 (A k j hk hj (L.inj _ _ e).symm)
        rw [has_put_other ne]
        refine ⟨has_put_same T.isMap (L.key _) _, fun z => ?_⟩
        rw [atKey_put_other ne]
        exact atKey_put_same T.isMap (L.key _) _ z
      · rw [if_neg q2]
        have ne1 : lit (pl l k).1 ≠ lit (pl l i).1 := fun e => q2 (A k i hk hi (L.inj _ _ e))
        have ne2 : lit (pl l k).1 ≠ lit (pl l j).1 := fun e => q1 (A k j hk hj (L.inj _ _ e))
        rw [has_put_other ne1, has_put_other ne2]
        refine ⟨(h.some k hk).1, fun z => ?_⟩
        rw [atKey_put_other ne1, atKey_put_other ne2]
        exact (h.some k hk).2 z
  · have hi2 := hk j (by rw [swp_len]; exact hj)
    have hj2 := hk i (by rw [swp_len]; exact hi)
    rw [swp_at hi hj, if_pos rfl] at hi2
    have ne1 : lit k ≠ lit (pl l i).1 := fun e => hi2 (L.inj _ _ e).symm
    have ne2 : lit k ≠ lit (pl l j).1 := fun e => by
      rw [swp_at hi hj] at hj2
      by_cases q : i = j
      · subst q; exact ne1 e
      · rw [if_neg q, if_pos rfl] at hj2; exact hj2 (L.inj _ _ e).symm
    rw [has_put_other ne1, has_put_other ne2]
    refine h.none k fun m hm e => ?_
    by_cases q1 : m = i
    · subst q1; exact hi2 e
    · by_cases q2 : m = j
      · subst q2; exact ne2 (by rw [e])
      · have := hk m (by rw [swp_len]; exact hm)
        rw [swp_at hi hj, if_neg q2, if_neg q1] at this
        exact this e
theorem Apart.push {l : List (κ × Int)} (h : Apart l) {a : κ × Int} (ha : ∀ i, i < l.length → (pl l i).1 ≠ a.1) : Apart (l ++ [a]) := by
  intro i j hi hj e
  simp at hi hj
  rw [pl_app, pl_app] at e
  by_cases q1 : i = l.length <;> by_cases q2 : j = l.length
  · omega
  · rw [if_pos q1, if_neg q2] at e; exact absurd e.symm (ha j (by omega))
  · rw [if_neg q1, if_pos q2] at e; exact absurd e (ha i (by omega))
  · rw [if_neg q1, if_neg q2] at e; exact h i j (by omega) (by omega) e
theorem Spots.push {D : DataW Unit} {l : List (κ × Int)} (h : Spots lit D l) (L : Lits lit) (T : Tidy D) {a : κ × Int} (ha : ∀ i, i < l.length → (pl l i).1 ≠ a.1) :
    Spots lit (D.put (lit a.1) (num l.length)) (l ++ [a]) ∧ Tidy (D.put (lit a.1) (num l.length)) := by
  refine ⟨⟨?_, fun k hk => ?_, fun k hk => ?_⟩, T.put (L.key _) _⟩
  · rw [size_put T, if_neg (by rw [h.none _ ha]; simp), h.size]; simp
  · simp at hk
    rw [pl_app]
    by_cases q : k = l.length
    · rw [if_pos q, q]
      exact ⟨has_put_same T.isMap (L.key _) _, fun z => atKey_put_same T.isMap (L.key _) _ z⟩
    · rw [if_neg q]
      have ne : lit (pl l k).1 ≠ lit a.1 := fun e => ha k (by omega) (L.inj _ _ e)
      rw [has_put_other ne]
      refine ⟨(h.some k (by omega)).1, fun z => ?_⟩
      rw [atKey_put_other ne]
      exact (h.some k (by omega)).2 z
  · have h1 := hk l.length (by simp)
    rw [pl_app, if_pos rfl] at h1
    rw [has_put_other (fun e => h1 (L.inj _ _ e).symm)]
    refine h.none k fun m hm => ?_
    have := hk m (by simp; omega)
    rw [pl_app, if_neg (by omega)] at this
    exact this
theorem Apart.take {l : List (κ × Int)} (h : Apart l) (n : Nat) : Apart (l.take n) := by
  intro i j hi hj e
  rw [List.length_take] at hi hj
  rw [pl_take (by omega), pl_take (by omega)] at e
  exact h i j (by omega) (by omega) e
theorem Spots.pop {D : DataW Unit} {l : List (κ × Int)} (h : Spots lit D l) (L : Lits lit) (T : Tidy D) (A : Apart l) (h0 : 0 < l.length) :
    Spots lit (D.del (lit (pl l (l.length - 1)).1)) (l.take (l.length - 1)) := by
  have e0 : (l.take (l.length - 1)).length = l.length - 1 := by rw [List.length_take]; omega
  refine ⟨?_, fun k hk => ?_, fun k hk => ?_⟩
  · have := size_del (k := lit (pl l (l.length - 1)).1) T
    rw [if_pos (h.some _ (by omega)).1, h.size] at this
    rw [e0]; omega
  · rw [e0] at hk
    rw [pl_take hk]
    have ne : lit (pl l k).1 ≠ lit (pl l (l.length - 1)).1 := fun e => by
      have := A k (l.length - 1) (by omega) (by omega) (L.inj _ _ e); omega
    rw [has_del_other ne]
    refine ⟨(h.some k (by omega)).1, fun z => ?_⟩
    rw [atKey_del_other ne]
    exact (h.some k (by omega)).2 z
  · by_cases q : k = (pl l (l.length - 1)).1
    · rw [q]; exact has_del_same
    · rw [has_del_other (fun e => q (L.inj _ _ e))]
      refine h.none k fun m hm e => ?_
      by_cases q2 : m = l.length - 1
      · rw [q2] at e; exact q e.symm
      · exact hk m (by rw [e0]; omega) (by rw [pl_take (by omega)]; exact e)
theorem keys_set {l : List (κ × Int)} {i : Nat} (hi : i < l.length) (t : Int) (k : Nat) : (pl (l.set i ((pl l i).1, t)) k).1 = (pl l k).1 := by
  rw [pl_set hi]
  by_cases q : k = i
  · rw [if_pos q, q]
  · rw [if_neg q]
theorem Apart.set {l : List (κ × Int)} (h : Apart l) {i : Nat} (hi : i < l.length) (t : Int) : Apart (l.set i ((pl l i).1, t)) := by
  intro a b ha hb e
  rw [keys_set hi, keys_set hi] at e
  simp at ha hb
  exact h a b ha hb e
theorem Spots.set {D : DataW Unit} {l : List (κ × Int)} (h : Spots lit D l) {i : Nat} (hi : i < l.length) (t : Int) : Spots lit D (l.set i ((pl l i).1, t)) := by
  refine ⟨by simpa using h.size, fun k hk => ?_, fun k hk => ?_⟩
  · rw [keys_set hi]; exact h.some k (by simpa using hk)
  · refine h.none k fun m hm => ?_
    have := hk m (by simpa using hm)
    rw [keys_set hi] at this
    exact this
end
theorem litS : Lits (fun k : List UInt8 => Lit.string k) := ⟨fun a b e => by cases e; rfl, fun a => by simp [WideAt.IsKeyLit]⟩
theorem litI : Lits (fun k : Int => Lit.int .i64 k) := ⟨fun a b e => by cases e; rfl, fun a => by simp [WideAt.IsKeyLit]⟩
end Go.Proofs.Ytiaggddpoddbcaa.Spots
