/- append of bytes to a slice of bytes, wherever it lies. -/
import Derived.Test.YtfkilbhhpipjbaaGreatDoorQuoted
import Derived.Deep.AppendSrc
import Derived.Deep.Upon
import Derived.Laws.IdiomStrings
namespace Go.Proofs.YtfkilbhhpipjbaaGreatDoor.Grow
open Go.RowKit
open Go.Proofs.YtfkilbhhpipjbaaGreatDoor.ReqMath
open Go.Proofs.YtfkilbhhpipjbaaGreatDoor.Base
open Go.Proofs.YtfkilbhhpipjbaaGreatDoor.Small
open Go.Proofs.YtfkilbhhpipjbaaGreatDoor.Append
open Go.Proofs.YtfkilbhhpipjbaaGreatDoor.Bulk
open Go.Proofs.YtfkilbhhpipjbaaGreatDoor.Bulk2
open Go.Proofs.YtfkilbhhpipjbaaGreatDoor.Quoted
set_option linter.unusedVariables false

def Z0 (fz : Nat × Nat) (n : Nat) : Prop := fz = (0, 0)
def Z1 (fz : Nat × Nat) (n : Nat) : Prop := fz = (0, 0) ∨ fz = (n, n + 1)
def BX (Z : Nat × Nat → Nat → Prop) (w : World) (v : Value) (t : ByteArray) : Prop := ∃ g o cap cs fz, v = .slice (some ⟨g, o, none⟩) t.size cap ∧ t.size ≤ cap ∧ w.heap[g]? = some (.cells cs 5 fz) ∧ o + cap ≤ cs.size ∧ Z fz cs.size ∧ Lib.Bytes w g o t
theorem bx_conv {Z : Nat × Nat → Nat → Prop} {w : World} {v : Value} {t : ByteArray} (h : BX Z w v t) : (convert 61 9 v).run Tryz.prog w = .ok (.string t) w := by
  obtain ⟨g, o, cap, cs, fz, rfl, hc, hg, ho, hZ, hB⟩ := h
  exact Lib.run_convert_whole (P := Tryz.prog) w 61 5 9 Tryz.underlying61 Tryz.underlying5 Tryz.underlying9 g o t hB cap
theorem bx_by {w : World} {v : Value} {t : ByteArray} (h : BX Z0 w v t) : BySl w v t := by
  obtain ⟨g, o, cap, cs, fz, rfl, hc, hg, ho, hZ, hB⟩ := h
  rw [show fz = (0, 0) from hZ] at hg
  exact ⟨_, cap, rfl, hc, Or.inr ⟨g, o, cs, rfl, hg, ho, hB⟩⟩
theorem app_size (t u : ByteArray) : (t ++ u).size = t.size + u.size := by simp
theorem app_bs (t u : ByteArray) : bs (t ++ u) = bs t ++ bs u := by unfold bs; simp
theorem app_get (t u : ByteArray) (i : Nat) (h : i < (t ++ u).size) : (t ++ u)[i] = if h' : i < t.size then t[i] else u[i - t.size]'(by rw [app_size] at h; omega) := by
  have h1 := get_bs (t ++ u) i h
  rw [app_bs] at h1
  by_cases h' : i < t.size
  · rw [dif_pos h']
    rw [List.getElem?_append_left (by rw [len_bs]; exact h'), get_bs t i h'] at h1
    exact (Option.some.inj h1).symm
  · rw [dif_neg h']
    rw [List.getElem?_append_right (by rw [len_bs]; omega), len_bs, get_bs u _ (by rw [app_size] at h; omega)] at h1
    exact (Option.some.inj h1).symm
theorem cells_get (u : ByteArray) (j : Nat) (h : j < u.size) : (byteCells u)[j]? = some (.int .u8 (u[j].toNat : Int)) := by
  unfold byteCells
  rw [List.getElem?_map]
  have := get_bs u j h
  unfold bs at this
  rw [this]; rfl
theorem block_of_cells {w : World} {g : Nat} {cs : Array Value} {e : TypeId} {fz : Nat × Nat} (h : w.heap[g]? = some (.cells cs e fz)) : ∀ (vs : List Value) (o : Nat), ∃ cs', (w.setCells g o vs).heap[g]? = some (.cells cs' e fz) ∧ cs'.size = cs.size
  | [], o => ⟨cs, h, rfl⟩
  | v :: vs, o => by
    have h1 := set_at (i := o) h v
    obtain ⟨cs', h2, h3⟩ := block_of_cells h1 vs (o + 1)
    refine ⟨cs', ?_, by rw [h3]; simp⟩
    exact h2
theorem fr_setCells (w : World) (g o : Nat) (vs : List Value) : Fr (fun q => q = g) w (w.setCells g o vs) := by
  induction vs generalizing o w with
  | nil => exact Fr.refl _ _
  | cons v vs ih => exact ((Fr.refl _ w).one v).trans (ih (w.setCell ⟨g, o, none⟩ v) (o + 1))
theorem new_cell (w : World) (cs : Array Value) (e : TypeId) (fz : Nat × Nat) (j : Nat) : (w.drew.alloc (.cells cs e fz)).cell? ⟨w.heap.size, j, none⟩ = cs[j]? := Lib.cell_of_heap (heap_alloc_new w.drew (.cells cs e fz)) j
theorem bx_append {Z : Nat × Nat → Nat → Prop} (hZ0 : ∀ n, Z (0, 0) n) (hZf : ∀ lo hi n off, Z (lo, hi) n → off < n → (decide (lo ≤ off) && decide (off < hi)) = false) {w : World} {v : Value} {t u : ByteArray} (h : BX Z w v t) (x : Value) (tx ty : TypeId) (hs : Src Tryz.prog 1 tx x u.size (byteCells u) w) (hz : t.size + u.size ≤ 1000000000) :
    ∃ v' w', (Builtin.append_ #[61, tx] ty #[v, x]).run Tryz.prog w = .ok v' w' ∧ BX Z w' v' (t ++ u) ∧ (slBlock v' = slBlock v ∨ slBlock v' = some w.heap.size) ∧ Fr (fun q => slBlock v = some q) w w' := by
  obtain ⟨g, o, cap, cs, fz, rfl, hc, hg, ho, hZ, hB⟩ := h
  obtain ⟨i, hi, hz0, hz1, hz2⟩ := info_parts info5
  by_cases hroom : t.size + u.size ≤ cap
  · have hcell : ∀ j, j < (byteCells u).length → (w.cell? ⟨g, o + t.size * i.size + j, none⟩).isSome = true := by
      intro j hj
      rw [byteCells_length] at hj
      rw [Lib.cell_of_heap hg, hz1, Array.getElem?_eq_getElem (by omega)]
      rfl
    have hfro : ∀ j, j < (byteCells u).length → w.frozen? ⟨g, o + t.size * i.size + j, none⟩ = false := by
      intro j hj
      rw [byteCells_length] at hj
      obtain ⟨lo, hh⟩ := fz
      have := hZf lo hh cs.size (o + t.size * i.size + j) hZ (by rw [hz1]; omega)
      simp [World.frozen?, hg]
      simpa using this
    have hr := run_append_room_src (P := Tryz.prog) w 61 tx ty 5 i Tryz.underlying61 hi g o t.size cap x u.size (byteCells u) (by rw [hz1]; exact hs) hroom hcell hfro
    refine ⟨_, _, hr, ?_, Or.inl rfl, (fr_setCells w g _ _).wide fun q hq => by rw [hq]; rfl⟩
    obtain ⟨cs', hg', hsz⟩ := block_of_cells hg (byteCells u) (o + t.size * i.size)
    refine ⟨g, o, cap, cs', fz, by rw [app_size], by rw [app_size]; exact hroom, hg', by omega, by rw [hsz]; exact hZ, fun k hk => ?_⟩
    rw [app_get]
    by_cases hk' : k < t.size
    · rw [dif_pos hk', World.cell?_setCells_out g (byteCells u) _ w ⟨g, o + k, none⟩ (fun _ _ => Or.inl (by show o + k < _; rw [hz1]; omega))]
      exact hB k hk'
    · rw [dif_neg hk']
      rw [app_size] at hk
      have := World.cell?_setCells_in g (byteCells u) (o + t.size * i.size) w hcell (k - t.size) (by rw [byteCells_length]; omega)
      rw [hz1, show o + t.size * 1 + (k - t.size) = o + k from by omega] at this
      rw [hz1, this]
      have hg2 := cells_get u (k - t.size) (by omega)
      rw [List.getElem?_eq_getElem (by rw [byteCells_length]; omega)] at hg2
      exact hg2
  · have hold : (Builtin.firstCells i.size t.size (.slice (some ⟨g, o, none⟩) t.size cap)).run Tryz.prog w.drew = .ok (byteCells t).toArray w.drew := by
      refine run_firstCells_some (P := Tryz.prog) w.drew i.size t.size ⟨g, o, none⟩ t.size cap (byteCells t) (by rw [byteCells_length, hz1, Nat.mul_one]) ?_
      intro j y hj
      have hjt : j < t.size := by have := (List.getElem?_eq_some_iff.1 hj).1; rwa [byteCells_length] at this
      rw [cells_get t j hjt] at hj
      cases hj
      rw [add_off]
      exact hB j hjt
    have hr := run_append_grow_src (P := Tryz.prog) w 61 tx ty 5 i (.int .u8 0) Tryz.underlying61 hi hz0 (some ⟨g, o, none⟩) t.size cap (byteCells t) hold x u.size (byteCells u) (by rw [hz1]; exact hs) (by omega) (by omega) (growslice_fits (by omega) (by rw [hz2]; omega))
    refine ⟨_, _, hr, ?_, Or.inr rfl, Fr.of_below ((Below.refl _ w).drew.alloc (Nat.le_refl _) _)⟩
    have hge := grownCap_ge w (t.size + u.size) cap 5
    refine ⟨w.heap.size, 0, grownCap w (t.size + u.size) cap 5, _, (0, 0), by rw [app_size], by rw [app_size]; exact hge, heap_alloc_new w.drew _, ?_, hZ0 _, fun k hk => ?_⟩
    · rw [Array.size_append, List.size_toArray, List.length_append, byteCells_length, byteCells_length, size_zeroCells]
      show 0 + _ ≤ _ + _ * 1
      omega
    · rw [app_size] at hk
      rw [new_cell, Nat.zero_add, Array.getElem?_append_left (by rw [List.size_toArray, List.length_append, byteCells_length, byteCells_length]; exact hk), List.getElem?_toArray, app_get]
      by_cases hk' : k < t.size
      · rw [dif_pos hk', List.getElem?_append_left (by rw [byteCells_length]; exact hk')]
        exact cells_get t k hk'
      · rw [dif_neg hk', List.getElem?_append_right (by rw [byteCells_length]; omega), byteCells_length]
        exact cells_get u _ (by omega)
theorem z0_zero (n : Nat) : Z0 (0, 0) n := rfl
theorem z0_free (lo hi n off : Nat) (h : Z0 (lo, hi) n) (ho : off < n) : (decide (lo ≤ off) && decide (off < hi)) = false := by
  have e : (lo, hi) = (0, 0) := h
  cases e
  simp
theorem z1_zero (n : Nat) : Z1 (0, 0) n := Or.inl rfl
theorem z1_free (lo hi n off : Nat) (h : Z1 (lo, hi) n) (ho : off < n) : (decide (lo ≤ off) && decide (off < hi)) = false := by
  rcases h with e | e <;> cases e
  · simp
  · simp; omega
/- what a slice of bytes yields -/
theorem src_ob {w : World} {v : Value} {l : List UInt8} (h : OB w v l) : Src Tryz.prog 1 61 v (mk l).size (byteCells (mk l)) w := by
  have hb : byteCells (mk l) = Lib.byteCells l := rfl
  rw [hb, mk_size]
  rcases h.2 with ⟨rfl, hn⟩ | ⟨g, cap, cur, rfl, hbg, hg, hnc, hcm, hcs, htake⟩
  · have hl : l = [] := List.length_eq_zero_iff.1 hn
    subst hl
    exact Src.ofNil (P := Tryz.prog) w Tryz.underlying61 0
  · refine Src.ofSlice (P := Tryz.prog) w Tryz.underlying61 ⟨g, 0, none⟩ l.length cap (Lib.byteCells l) (by rw [Lib.byteCells_length, Nat.mul_one]) (World.ownsRow.cells h (g := g) rfl) ?_
    intro u hu
    obtain ⟨_, _, rfl⟩ := List.mem_map.1 hu
    rfl
/- []byte(s) -/
theorem bytes_of (w : World) (s : ByteArray) : ∃ v w', (convert 9 61 (.string s)).run Tryz.prog w = .ok v w' ∧ BX Z1 w' v s ∧ slBlock v = some w.heap.size ∧ Below w.heap.size w w' := by
  have hr := run_bytes_of_string (P := Tryz.prog) w 9 61 5 s Tryz.underlying9 Tryz.underlying61 Tryz.underlying5
  refine ⟨_, _, hr, ?_, rfl, (Below.refl _ w).drew.alloc (Nat.le_refl _) _⟩
  have hge := grownCap_ge w s.size 0 5
  have hsz : (bytesRow s (grownCap w s.size 0 5)).size = grownCap w s.size 0 5 := by
    unfold bytesRow
    rw [Array.size_append, Array.size_map, Array.size_replicate]
    show s.size + _ = _
    omega
  refine ⟨w.heap.size, 0, grownCap w s.size 0 5, bytesRow s (grownCap w s.size 0 5), _, rfl, hge, heap_alloc_new w.drew _, by rw [hsz]; omega, Or.inr rfl, fun k hk => ?_⟩
  rw [new_cell, Nat.zero_add]
  unfold bytesRow
  rw [Array.getElem?_append_left (by rw [Array.size_map]; exact hk), Array.getElem?_map]
  have := get_bs s k hk
  unfold bs at this
  rw [Array.getElem?_toList] at this
  rw [this]; rfl
end Go.Proofs.YtfkilbhhpipjbaaGreatDoor.Grow
