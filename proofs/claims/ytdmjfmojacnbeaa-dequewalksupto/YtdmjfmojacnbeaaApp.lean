/- One element appended to a new row. -/
import Derived.Test.YtdmjfmojacnbeaaLay
namespace Go.Proofs.Ytdmjfmojacnbeaa.App
open Go.RowKit
open Go.Proofs.Ytdmjfmojacnbeaa.Base
open Go.Proofs.Ytdmjfmojacnbeaa.Held
open Go.Proofs.Ytdmjfmojacnbeaa.Lay
set_option linter.unusedVariables false
set_option linter.unusedSimpArgs false
theorem take_lay {xs l : List El} {c : Nat} (h : xs.take l.length = l) (m : List El) (hx : l.length + m.length ≤ xs.length) : (lay xs l.length m).take (l ++ m).length = l ++ m := by
  unfold lay
  rw [h, List.take_left']
  rfl
/-- a list appended to a new row -/
theorem app_any {G : Nat → Prop} {B : Nat} {w : World} {v : Value} {l m : List El} {a : Option Addr} {c : Nat} (h : NR B w v l) (hm : Rd G w a m) (hb : (l.length + m.length) * 8 ≤ 140737488355328) (hB : B ≤ w.heap.size) (ty : TypeId) :
    ∃ v' w', (Builtin.append_ #[22, 22] ty #[v, .slice a m.length c]).run Try.prog w = .ok v' w' ∧ NR B w' v' (l ++ m) ∧ Below B w w' := by
  obtain ⟨i, hi, hz0, hz1, hz2⟩ := info_parts info3
  by_cases hl : m = []
  · subst hl
    refine ⟨v, w, ?_, by simpa using h, Below.refl _ _⟩
    have hld : ∀ x, (loadCells x 0).run Try.prog w = .ok #[] w := fun x => by simpa using run_loadCells_list (P := Try.prog) w x [] (by simp)
    rcases h with ⟨rfl, rfl⟩ | ⟨g, cp, xs, rfl, hBg, hr, hx, hlc, ht⟩
    · cases a <;> simp [Builtin.append_, run_underlying Try.underlying22, Builtin.lenOf, Builtin.firstCells, sizeOf, typeInfo, hi, hz1, hld]
    · cases a <;> simp [Builtin.append_, run_underlying Try.underlying22, Builtin.lenOf, Builtin.firstCells, sizeOf, typeInfo, hi, hz1, hld, hlc, storeCells]
  · have hp : 0 < m.length := List.length_pos_iff.2 hl
    have hs : Src Try.prog i.size 22 (.slice a m.length c) m.length (m.map V) w := by rw [hz1]; exact rd_src hm hl c
    by_cases hroom : ∃ g cp xs, v = .slice (some ⟨g, 0, none⟩) l.length cp ∧ B ≤ g ∧ RowIs w g xs ∧ xs.length = cp ∧ xs.take l.length = l ∧ l.length + m.length ≤ cp
    · obtain ⟨g, cp, xs, rfl, hBg, hr, hx, ht, hrm⟩ := hroom
      have hst := run_storeCells_at Try.prog g l.length 3 (m.map V) 0 (cells xs) w hr (by rw [List.length_map, cells_size]; omega) (fun v hv => by
        obtain ⟨x, _, rfl⟩ := List.mem_map.1 hv
        rfl)
      simp only [Nat.add_zero] at hst
      have hcl := hs.cells
      rw [hz1] at hcl
      refine ⟨.slice (some ⟨g, 0, none⟩) (l.length + m.length) cp, _, ?_, .inr ⟨g, cp, _, by rw [List.length_append], hBg, hr.lay l.length m, by rw [lay_len (by omega)]; exact hx, by rw [List.length_append]; exact hrm, take_lay (c := cp) ht m (by omega)⟩, ?_⟩
      · simp [Builtin.append_, run_underlying Try.underlying22, Builtin.lenOf, sizeOf, typeInfo, hi, hz1, hrm, hcl, Addr.add_lit]
        simp at hst
        rw [hst]
        simp
      · exact (Fr.row (F := fun k => k = g) rfl _).below (Nat.le_trans hB (Nat.le_refl _)) fun k e => by rw [e]; exact hBg
    · have hg : ∃ ba cp, v = .slice ba l.length cp ∧ l.length ≤ cp ∧ cp < l.length + m.length ∧ (Builtin.firstCells i.size l.length (.slice ba l.length cp)).run Try.prog w.drew = .ok (l.map V).toArray w.drew := by
        rcases h with ⟨rfl, rfl⟩ | ⟨g, cp, xs, rfl, hBg, hr, hx, hlc, ht⟩
        · exact ⟨none, 0, rfl, Nat.le_refl _, by simpa using hp, by simp [Builtin.firstCells]⟩
        · refine ⟨_, cp, rfl, hlc, ?_, ?_⟩
          · rcases Nat.lt_or_ge cp (l.length + m.length) with q | q
            · exact q
            · exact absurd ⟨g, cp, xs, rfl, hBg, hr, hx, ht, q⟩ hroom
          · refine run_firstCells_some (P := Try.prog) w.drew i.size l.length ⟨g, 0, none⟩ l.length cp (l.map V) (by simp [hz1]) ?_
            intro j y hj
            rw [List.getElem?_map] at hj
            obtain ⟨x, hx1, rfl⟩ := Option.map_eq_some_iff.1 hj
            rw [add_off, Nat.zero_add]
            show w.cell? ⟨g, j, none⟩ = _
            rw [hr.cell]
            rw [← ht, List.getElem?_take] at hx1
            split at hx1
            · rw [hx1]; rfl
            · cases hx1
      obtain ⟨ba, cp, rfl, hlc, hlt, hold⟩ := hg
      have hr := run_append_grow_src (P := Try.prog) w 22 22 ty 3 i (V Z) Try.underlying22 hi hz0 ba l.length cp (l.map V) hold (.slice a m.length c) m.length (m.map V) hs hlt (by omega) (growslice_fits hlt (by rw [hz2]; exact hb))
      have hge := grownCap_ge w (l.length + m.length) cp 3
      refine ⟨_, _, hr, .inr ⟨w.heap.size, grownCap w (l.length + m.length) cp 3, (l ++ m) ++ List.replicate (grownCap w (l.length + m.length) cp 3 - (l.length + m.length)) Z, by rw [List.length_append], hB, ?_, by simp; omega, by rw [List.length_append]; exact hge, List.take_left' rfl⟩, (Below.refl _ w).drew.alloc hB _⟩
      unfold RowIs
      rw [show w.heap.size = w.drew.heap.size from rfl, heap_alloc_new w.drew, zeros_cells]
      simp [cells]
/-- append(l, x) -/
theorem app_one {B : Nat} {w : World} {v : Value} {l : List El} (x : El) (h : NR B w v l) (hb : (l.length + 1) * 8 ≤ 140737488355328) (hB : B ≤ w.heap.size) (ty : TypeId) :
    ∃ v' w', (Builtin.append_ #[22, 22] ty #[v, .slice (some ⟨w.heap.size, 0, none⟩) 1 1]).run Try.prog (w.alloc (.cells #[V x] 3)) = .ok v' w' ∧ NR B w' v' (l ++ [x]) ∧ Below B w w' := by
  have b1 := (Below.refl w.heap.size w).alloc (Nat.le_refl _) (.cells #[V x] 3)
  have hm : Rd (fun _ => True) (w.alloc (.cells #[V x] 3)) (some ⟨w.heap.size, 0, none⟩) [x] := by
    refine .inr ⟨w.heap.size, 0, rfl, trivial, fun j y hj => ?_⟩
    rw [Lib.cell_of_heap (heap_alloc_new w _)]
    cases j with
    | zero => simp at hj; subst hj; rfl
    | succ j => simp at hj
  obtain ⟨v', w', h1, h2, h3⟩ := app_any (c := 1) (h.below b1) hm (by simpa using hb) (Nat.le_trans hB b1.size) ty
  exact ⟨v', w', h1, h2, (b1.mono hB).trans h3⟩
end Go.Proofs.Ytdmjfmojacnbeaa.App
