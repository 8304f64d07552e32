/- append to a new row, and what stands beside it. -/
import Derived.Test.YtdcnkdkhanmklabBase
namespace Go.Proofs.Ytdcnkdkhanmklab.AppF
open Go.RowKit Go.Sort
open Go.Proofs.Ytdcnkdkhanmklab.SetMath
open Go.Proofs.Ytdcnkdkhanmklab.Base
set_option linter.unusedVariables false
set_option linter.unusedSimpArgs false
/-- a list appended to a new row -/
theorem app_fr {G : Nat → Prop} {B : Nat} {w : World} {v : Value} {l m : List El} {a : Option Addr} {c : Nat} (h : NR B w v l) (hm : Rd G w a m) (hb : (l.length + m.length) * 16 ≤ 140737488355328 ∨ (m.length = 1 ∧ l.length * 16 ≤ 140737488355328)) (hB : B ≤ w.heap.size) (ty : TypeId) :
    ∃ v' w', (Builtin.append_ #[22, 22] ty #[v, .slice a m.length c]).run Try.prog w = .ok v' w' ∧ NR B w' v' (l ++ m) ∧ Below B w w' ∧ ∀ q, q < w.heap.size → (∀ g n c, v = .slice (some ⟨g, 0, none⟩) n c → q ≠ g) → w'.heap[q]? = w.heap[q]? := by
  obtain ⟨i, hi, hz0, hz1, hz2⟩ := info_parts info9
  by_cases hl : m = []
  · subst hl
    refine ⟨v, w, ?_, by simpa using h, Below.refl _ _, fun _ _ _ => rfl⟩
    have hld : ∀ x, (loadCells x 0).run Try.prog w = .ok #[] w := fun x => by simpa using run_loadCells_list (P := Try.prog) w x [] (by simp)
    rcases h with ⟨rfl, rfl⟩ | ⟨g, cp, xs, rfl, hBg, hr, hx, hlc, ht⟩
    · cases a <;> simp [Builtin.append_, run_underlying Try.underlying22, Builtin.lenOf, Builtin.firstCells, sizeOf, typeInfo, hi, hz1, hld]
    · cases a <;> simp [Builtin.append_, run_underlying Try.underlying22, Builtin.lenOf, Builtin.firstCells, sizeOf, typeInfo, hi, hz1, hld, hlc, storeCells]
  · have hp : 0 < m.length := List.length_pos_iff.2 hl
    have hs : Src Try.prog i.size 22 (.slice a m.length c) m.length (m.map V) w := by rw [hz1]; exact rd_src hm hl c
    by_cases hroom : ∃ g cp cur, v = .slice (some ⟨g, 0, none⟩) l.length cp ∧ B ≤ g ∧ w.heap[g]? = some (.cells cur 9 (0, 0)) ∧ cur.size = cp ∧ cur.toList.take l.length = l.map V ∧ l.length + m.length ≤ cp
    · obtain ⟨g, cp, cur, rfl, hBg, hr, hx, ht, hrm⟩ := hroom
      have hst := run_storeCells_at Try.prog g l.length 9 (m.map V) 0 cur w hr (by rw [List.length_map]; omega) (fun v hv => by
        obtain ⟨x, _, rfl⟩ := List.mem_map.1 hv
        rfl)
      simp only [Nat.add_zero] at hst
      have hcl := hs.cells
      rw [hz1] at hcl
      refine ⟨.slice (some ⟨g, 0, none⟩) (l.length + m.length) cp, _, ?_, .inr ⟨g, cp, _, by rw [List.length_append], hBg, setRow_heap w g cur (cur.toList.take l.length ++ m.map V ++ cur.toList.drop (l.length + (m.map V).length)).toArray 9 (0, 0) hr, by simp; omega, by rw [List.length_append]; exact hrm, ?_⟩, ?_, fun q _ hq => row_ne (hq g _ _ rfl)⟩
      · simp [Builtin.append_, run_underlying Try.underlying22, Builtin.lenOf, sizeOf, typeInfo, hi, hz1, hrm, hcl, Addr.add_lit]
        simp at hst
        rw [hst]
        simp
      · rw [ht, ← List.map_append]
        exact List.take_left' (by simp)
      · exact (Fr.row (F := fun k => k = g) rfl _).below (Nat.le_trans hB (Nat.le_refl _)) fun k e => by rw [e]; exact hBg
    · have hg : ∃ ba cp, v = .slice ba l.length cp ∧ l.length ≤ cp ∧ cp < l.length + m.length ∧ (Builtin.firstCells i.size l.length (.slice ba l.length cp)).run Try.prog w.drew = .ok (l.map V).toArray w.drew := by
        rcases h with ⟨rfl, rfl⟩ | ⟨g, cp, cur, rfl, hBg, hr, hx, hlc, ht⟩
        · exact ⟨none, 0, rfl, Nat.le_refl _, by simpa using hp, by simp [Builtin.firstCells]⟩
        · refine ⟨_, cp, rfl, hlc, ?_, ?_⟩
          · rcases Nat.lt_or_ge cp (l.length + m.length) with q | q
            · exact q
            · exact absurd ⟨g, cp, cur, rfl, hBg, hr, hx, ht, q⟩ hroom
          · refine run_firstCells_some (P := Try.prog) w.drew i.size l.length ⟨g, 0, none⟩ l.length cp (l.map V) (by simp [hz1]) ?_
            intro j y hj
            rw [List.getElem?_map] at hj
            obtain ⟨x, hx1, rfl⟩ := Option.map_eq_some_iff.1 hj
            rw [add_off, Nat.zero_add]
            show w.cell? ⟨g, j, none⟩ = _
            rw [Lib.cell_of_heap hr]
            exact row_at ht hx1
      obtain ⟨ba, cp, rfl, hlc, hlt, hold⟩ := hg
      have hfit : Builtin.nextslicecap (l.length + m.length) cp * i.bytes ≤ 281474976710656 := by
        rw [hz2]
        rcases hb with hb | ⟨h1, h2⟩
        · exact growslice_fits hlt hb
        · obtain rfl : cp = l.length := by omega
          rw [h1]
          exact growslice_fits_succ h2 (by decide)
      have hr := run_append_grow_src (P := Try.prog) w 22 22 ty 9 i (V Z) Try.underlying22 hi hz0 ba l.length cp (l.map V) hold (.slice a m.length c) m.length (m.map V) hs hlt (by omega) hfit
      have hge := grownCap_ge w (l.length + m.length) cp 9
      refine ⟨_, _, hr, .inr ⟨w.heap.size, grownCap w (l.length + m.length) cp 9, _, by rw [List.length_append], hB, heap_alloc_new w.drew _, ?_, by rw [List.length_append]; exact hge, ?_⟩, (Below.refl _ w).drew.alloc hB _, fun q hq _ => ((Below.refl w.heap.size w).drew.alloc (Nat.le_refl _) _).block q hq⟩
      · simp [Builtin.zeroCells, Value.cells]
        omega
      · rw [Array.toList_append, List.map_append]
        exact List.take_left' (by simp)
end Go.Proofs.Ytdcnkdkhanmklab.AppF
