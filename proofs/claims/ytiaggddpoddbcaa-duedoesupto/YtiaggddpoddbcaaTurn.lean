/- What may turn between two worlds: blocks of some kinds, from a block on. -/
import Derived.Test.YtiaggddpoddbcaaHeap2
import Derived.Maps.OwnSet
import Derived.BigQuiet
namespace Go.Proofs.Ytiaggddpoddbcaa.Turn
open Go.RowKit Go.Maps
set_option linter.unusedVariables false
set_option linter.unusedSimpArgs false
theorem lt_of {w : World} {b : Nat} {o : Obj} (h : w.heap[b]? = some o) : b < w.heap.size := (Array.getElem?_eq_some_iff.1 h).1

/- what kind of block -/
def kd (w : World) (k : Nat) : Nat := match w.heap[k]? with
  | some (.cells _ t _) => t + 2
  | some (.map _ _) => 1
  | _ => 0
theorem kd_cells {w : World} {k : Nat} {cs : Array Value} {t : TypeId} {fz : Nat × Nat} (h : w.heap[k]? = some (.cells cs t fz)) : kd w k = t + 2 := by unfold kd; rw [h]
theorem kd_map {w : World} {k : Nat} {es : Array MapEntry} {c : Nat} (h : w.heap[k]? = some (.map es c)) : kd w k = 1 := by unfold kd; rw [h]
theorem kd_eq {w w' : World} {k : Nat} (h : w'.heap[k]? = w.heap[k]?) : kd w' k = kd w k := by unfold kd; rw [h]
/- blocks of the kinds T from base on may turn, keeping their kind -/
structure Ev (T : Nat → Bool) (base : Nat) (w w' : World) : Prop where
  os : w'.os = w.os
  tape : w'.tape = w.tape
  output : w'.output = w.output
  size : w.heap.size ≤ w'.heap.size
  kind : ∀ k, k < w.heap.size → kd w' k = kd w k
  block : ∀ k, k < w.heap.size → (k < base ∨ T (kd w k) = false) → w'.heap[k]? = w.heap[k]?
theorem Ev.refl (T : Nat → Bool) (base : Nat) (w : World) : Ev T base w w := ⟨rfl, rfl, rfl, Nat.le_refl _, fun _ _ => rfl, fun _ _ _ => rfl⟩
theorem Ev.trans {T : Nat → Bool} {base : Nat} {a b c : World} (h : Ev T base a b) (k : Ev T base b c) : Ev T base a c :=
  ⟨k.os.trans h.os, k.tape.trans h.tape, k.output.trans h.output, Nat.le_trans h.size k.size, fun i hi => (k.kind i (Nat.lt_of_lt_of_le hi h.size)).trans (h.kind i hi),
    fun i hi ht => (k.block i (Nat.lt_of_lt_of_le hi h.size) (ht.imp id fun e => by rw [h.kind i hi]; exact e)).trans (h.block i hi ht)⟩
theorem Ev.of_below {T : Nat → Bool} {base : Nat} {a b : World} (h : Below a.heap.size a b) : Ev T base a b := ⟨h.os, h.tape, h.output, h.size, fun k hk => kd_eq (h.block k hk), fun k hk _ => h.block k hk⟩
theorem Ev.below {T : Nat → Bool} {base : Nat} {a b : World} (h : Ev T base a b) (hb : base ≤ a.heap.size) : Below base a b := ⟨h.os, h.tape, h.output, h.size, fun k hk => h.block k (by omega) (Or.inl hk)⟩
theorem Ev.alloc {T : Nat → Bool} {base : Nat} {a b : World} (h : Ev T base a b) (o : Obj) : Ev T base a (b.alloc o) := h.trans (Ev.of_below ((Below.refl _ b).alloc (Nat.le_refl _) o))
theorem Ev.drew {T : Nat → Bool} {base : Nat} {a b : World} (h : Ev T base a b) : Ev T base a b.drew := ⟨h.os, h.tape, h.output, h.size, h.kind, h.block⟩
theorem Ev.drewN {T : Nat → Bool} {base : Nat} {a b : World} (h : Ev T base a b) (n : Nat) : Ev T base a (b.drewN n) := ⟨h.os, h.tape, h.output, h.size, h.kind, h.block⟩
theorem set_at {w : World} {b i : Nat} {cs : Array Value} {ty : TypeId} {fz : Nat × Nat} (h : w.heap[b]? = some (.cells cs ty fz)) (v : Value) : (w.setCell ⟨b, i, none⟩ v).heap[b]? = some (.cells (cs.setIfInBounds i v) ty fz) := by
  have e2 : (w.setCell ⟨b, i, none⟩ v).heap[b]? = (w.heap[b]?).map (fun | .cells c elem frozen => .cells (if (none : Option Nat).isSome then c else c.setIfInBounds i v) elem frozen | o => o) := by
    show (w.heap.modify b _)[b]? = _
    rw [Array.getElem?_modify, if_pos rfl]
    rfl
  rw [e2, h]; rfl
theorem set_ne {w : World} {b i k : Nat} (h : k ≠ b) (v : Value) : (w.setCell ⟨b, i, none⟩ v).heap[k]? = w.heap[k]? := Below.heap_setCell _ _ _ _ h
theorem size_set {w : World} (p : Addr) (v : Value) : (w.setCell p v).heap.size = w.heap.size := by simp [World.setCell]
/- a world in which one block of a kind of T has turned -/
theorem Ev.one {T : Nat → Bool} {base : Nat} {w w' : World} {g : Nat} (h : w.grownBy w' (some g)) (hg : g < w.heap.size) (hb : base ≤ g) (ht : T (kd w g) = true) (hk : kd w' g = kd w g) : Ev T base w w' := by
  refine ⟨h.os, h.tape, h.output, h.size, fun k hk2 => ?_, fun k hk2 hT => h.block k hk2 ?_⟩
  · by_cases e : k = g
    · rw [e]; exact hk
    · exact kd_eq (h.block k hk2 (fun x => e (by cases x; rfl)))
  · rintro x
    cases x
    rcases hT with h1 | h1
    · omega
    · rw [ht] at h1; cases h1
theorem Ev.set {T : Nat → Bool} {base : Nat} {w : World} {g i : Nat} {cs : Array Value} {t : TypeId} {fz : Nat × Nat} (h : w.heap[g]? = some (.cells cs t fz)) (hb : base ≤ g) (ht : T (t + 2) = true) (v : Value) : Ev T base w (w.setCell ⟨g, i, none⟩ v) := by
  have e0 : Below 0 w (w.setCell ⟨g, i, none⟩ v) := (Below.refl 0 w).setCell (Nat.zero_le _) v
  refine Ev.one (g := g) ⟨e0.os, e0.tape, e0.output, e0.size, fun k hk hne => set_ne (fun x => hne (by rw [x])) v⟩ (lt_of h) hb (by rw [kd_cells h]; exact ht) ?_
  rw [kd_cells h, kd_cells (set_at h v)]
theorem Ev.turned {T : Nat → Bool} {base : Nat} {w w' : World} {b : Nat} (h : w.mapTurned w' b) (hb : base ≤ b) (ht : T 1 = true) : Ev T base w w' := by
  have hg := h.grown
  obtain ⟨es, c, es', c', h1, rfl⟩ := h
  refine Ev.one hg (lt_of h1) hb (by rw [kd_map h1]; exact ht) ?_
  rw [kd_map h1]
  exact kd_map (ChangeMaps.heap_setBlock_same h1 _)
theorem Ev.none {T : Nat → Bool} {base : Nat} {w w' : World} (h : w.grownBy w' Option.none) : Ev T base w w' := ⟨h.os, h.tape, h.output, h.size, fun k hk => kd_eq (h.block k hk (by simp)), fun k hk _ => h.block k hk (by simp)⟩

end Go.Proofs.Ytiaggddpoddbcaa.Turn
