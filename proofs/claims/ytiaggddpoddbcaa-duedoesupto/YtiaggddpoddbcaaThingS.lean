/- An index's row over texts is a thing that container/heap moves. -/
import Derived.Test.YtiaggddpoddbcaaPush
import Derived.Test.YtiaggddpoddbcaaCallRowS
namespace Go.Proofs.Ytiaggddpoddbcaa.ThingS
open Go.RowKit Go.Maps
open Go.Proofs.Ytiaggddpoddbcaa.HeapMath
open Go.Proofs.Ytiaggddpoddbcaa.Heap
open Go.Proofs.Ytiaggddpoddbcaa.Turn
open Go.Proofs.Ytiaggddpoddbcaa.Before
open Go.Proofs.Ytiaggddpoddbcaa.Spots
open Go.Proofs.Ytiaggddpoddbcaa.RowB
open Go.Proofs.Ytiaggddpoddbcaa.Swap
open Go.Proofs.Ytiaggddpoddbcaa.Pop
open Go.Proofs.Ytiaggddpoddbcaa.PushR
open Go.Proofs.Ytiaggddpoddbcaa.PushR0
open Go.Proofs.Ytiaggddpoddbcaa.Push
set_option linter.unusedVariables false
set_option linter.unusedSimpArgs false
theorem push_call {base b : Nat} {l : Es} {w : World} {e : Bs × Int} (h : RS base b w l) (we : e.1.length ≤ 281474976710656) (hne : ∀ i, i < l.length → (pl l i).1 ≠ e.1) (hb : l.length < 1099511627776) :
    Calls Try.prog 83 #[ptr b, .iface 96 (eS e)] w fun r w' => r = .returned (.tuple #[]) ∧ RS base b w' (l ++ [e]) ∧ Ev DT base w w' := by
  obtain ⟨ev, mv, h⟩ := h
  have hbl := lt_of h.idx
  rcases h.map with ⟨rfl, rfl⟩ | ⟨bm, D, rfl, hbm, own, sp⟩
  · have i1 := set_at (i := 1) h.idx (.map (some w.heap.size))
    obtain ⟨U, hU⟩ : ∃ U, U = w.setCell ⟨b, 1, none⟩ (.map (some w.heap.size)) := ⟨_, rfl⟩
    rw [← hU] at i1
    have hus : U.heap.size = w.heap.size := by rw [hU, size_set]
    obtain ⟨W1, hW1⟩ : ∃ W1, W1 = (U.alloc (.map #[] 0)).alloc (.cells #[.string (mk e.1), .int .i64 e.2] 96) := ⟨_, rfl⟩
    have s1 : (U.alloc (.map #[] 0)).heap.size = w.heap.size + 1 := by rw [← hus]; show (U.heap.push _).size = _; simp
    have idx1 : W1.heap[b]? = some (.cells #[ev, .map (some w.heap.size)] 73 (0, 0)) := by
      rw [hW1, Below.heap_alloc _ _ b (by omega), Below.heap_alloc _ _ b (by omega)]; exact i1
    have own1 : W1.ownsMap (H := Unit) Try.prog 9 (plainElem Try.prog 3) w.heap.size 0 (.map []) := by
      rw [hW1]
      have := World.ownsMap_made (H := Unit) U Try.prog 9 (plainElem Try.prog 3)
      rw [hus] at this
      exact this.alloc _
    have hx : W1.heap[w.heap.size + 1]? = some (.cells #[.string (mk e.1), .int .i64 e.2] 96 (0, 0)) := by
      have := new_at (U.alloc (.map #[] 0)) (.cells #[.string (mk e.1), .int .i64 e.2] 96)
      rw [s1, ← hW1] at this
      exact this
    have ent1 : W1.ownsRow base 96 2 ev ([] : Es).length (([] : Es).flatMap cS) := row_later h.ent fun g hg => by
      have q := row_kd h.ent hg
      have ng : g ≠ b := fun x => by have := q.1; rw [x, kd_cells h.idx] at this; cases this
      rw [hW1, Below.heap_alloc _ _ g (by omega), Below.heap_alloc _ _ g (by omega), hU, set_ne ng]
    have v1 : Ev DT base w W1 := by
      rw [hW1, hU]
      exact ((Ev.set h.idx h.bb rfl _).alloc _).alloc _
    have hbb := h.bb
    obtain ⟨a, c, a', c', W2, W3, rfl, H1, H2, hR, hE⟩ := push_end (e := e) idx1 h.bb (by omega) ent1 own1 (sp := ⟨rfl, fun i hi => absurd hi (by simp), fun k _ => rfl⟩) h.keys h.wide we hne hx hb (by have := lt_of hx; omega)
    refine (push_raw0 b 0 c 1 c' w.heap.size a a' w W1 W2 W3 (mk e.1) e.2 (by omega) hbl (Lib.cell_of_heap h.idx 1) (Lib.frozen_of_heap h.idx 1) rfl (hid_of (by rw [hW1, hU])) (hid_of H1) (hid_of H2)).mono ?_
    rintro r w' ⟨rfl, rfl⟩
    exact ⟨rfl, hR, v1.trans hE⟩
  · obtain ⟨W1, hW1⟩ : ∃ W1, W1 = w.alloc (.cells #[.string (mk e.1), .int .i64 e.2] 96) := ⟨_, rfl⟩
    have idx1 : W1.heap[b]? = some (.cells #[ev, .map (some bm)] 73 (0, 0)) := by rw [hW1, Below.heap_alloc _ _ b hbl]; exact h.idx
    have own1 : W1.ownsMap Try.prog 9 (plainElem Try.prog 3) bm l.length D := by rw [hW1]; exact own.alloc _
    have hx : W1.heap[w.heap.size]? = some (.cells #[.string (mk e.1), .int .i64 e.2] 96 (0, 0)) := by rw [hW1]; exact new_at w _
    have ent1 : W1.ownsRow base 96 2 ev l.length (l.flatMap cS) := row_later h.ent fun g hg => by
      rw [hW1, Below.heap_alloc _ _ g (row_kd h.ent hg).2.1]
    have v1 : Ev DT base w W1 := by rw [hW1]; exact (Ev.refl DT base w).alloc _
    have hbb := h.bb
    obtain ⟨a, c, a', c', W2, W3, rfl, H1, H2, hR, hE⟩ := push_end (e := e) idx1 h.bb hbm ent1 own1 sp h.keys h.wide we hne hx hb (by have := lt_of hx; omega)
    refine (push_raw b l.length c (l.length + 1) c' bm a a' w W1 W2 W3 (mk e.1) e.2 hb hbl (Lib.cell_of_heap h.idx 1) (hid_of hW1.symm) (hid_of H1) (hid_of H2)).mono ?_
    rintro r w' ⟨rfl, rfl⟩
    exact ⟨rfl, hR, v1.trans hE⟩
theorem RS.below {base b : Nat} {l : Es} {w w' : World} (h : RS base b w l) (hb : Below w.heap.size w w') : RS base b w' l := by
  obtain ⟨ev, mv, h⟩ := h
  refine ⟨ev, mv, ⟨(hb.block b (lt_of h.idx)).trans h.idx, h.bb, row_later h.ent fun g hg => hb.block g (row_kd h.ent hg).2.1, ?_, h.keys, h.wide⟩⟩
  rcases h.map with q | ⟨bm, D, e, hbm, own, sp⟩
  · exact .inl q
  · refine .inr ⟨bm, D, e, hbm, ?_, sp⟩
    have hl := own.lt
    obtain ⟨es, c, q, r⟩ := own
    exact ⟨es, c, (hb.block bm hl).trans q, r⟩
/-- the row, of a length that a machine can hold -/
def RT (base b : Nat) (w : World) (l : Es) : Prop := RS base b w l ∧ l.length < 1099511627776
/-- an entry that may be laid behind a row -/
def okS (e : Bs × Int) (l : Es) : Prop := e.1.length ≤ 281474976710656 ∧ (∀ i, i < l.length → (pl l i).1 ≠ e.1) ∧ l.length + 1 < 1099511627776
theorem thingS (base b : Nat) : Thing 46 81 82 83 84 ltS (ptr b) (fun e => .iface 96 (eS e)) okS (RT base b) (Ev DT base) where
  moves := {
    refl := Ev.refl DT base
    trans := fun _ _ _ h k => h.trans k
    less := fun w l i j h hi hj => (less_call h.1 i j hi hj h.2).mono (by
      rintro e w' ⟨rfl, hb⟩
      exact ⟨rfl, ⟨RS.below h.1 hb, h.2⟩, Ev.of_below hb⟩)
    swap := fun w l i j h hi hj => (swap_call h.1 i j hi hj h.2).mono (by
      rintro e w' ⟨rfl, hr, hv⟩
      exact ⟨rfl, ⟨hr, by rw [swp_len]; exact h.2⟩, hv⟩) }
  len := fun w l h => (len_call h.1).mono (by
    rintro e w' ⟨rfl, rfl⟩
    exact ⟨rfl, h, Ev.refl _ _ _⟩)
  push := fun w l a h ha => (push_call h.1 ha.1 ha.2.1 h.2).mono (by
    rintro e w' ⟨rfl, hr, hv⟩
    exact ⟨rfl, ⟨hr, by have := ha.2.2; simp; omega⟩, hv⟩)
  pop := fun w l h h0 => (pop_call h.1 h0 h.2).mono (by
    rintro e w' ⟨rfl, hr, hv⟩
    exact ⟨rfl, ⟨hr, by have := h.2; rw [List.length_take]; omega⟩, hv⟩)
end Go.Proofs.Ytiaggddpoddbcaa.ThingS
