/- slices.Reverse over numbers, PopFront, PopBack. place, At, Put, piece, Slice, Trim. piece, Slice, Trim. One element appended to a new row. isItself over numbers. -/
import Derived.Test.YtpibeabokedpdaaGreatDoorDqHeldM
import Derived.Test.YtpibeabokedpdaaGreatDoorDqBaseM
import Derived.Recover
import Derived.Defers
section
namespace Go.Proofs.YtpibeabokedpdaaGreatDoor.DqPop
open Go.RowKit
open Go.Proofs.YtpibeabokedpdaaGreatDoor.DqBase
open Go.Proofs.YtpibeabokedpdaaGreatDoor.DqHeld
open Go.Proofs.YtpibeabokedpdaaGreatDoor.DqLay
open Go.Proofs.YtpibeabokedpdaaGreatDoor.DqFree
open Go.Proofs.YtpibeabokedpdaaGreatDoor.DqPush
open Go.Proofs.YtpibeabokedpdaaGreatDoor.DqKeep
set_option linter.unusedVariables false
set_option linter.unusedSimpArgs false
/-- the first i and the last i of l have changed places -/
structure Half (l : List El) (i : Nat) (ys : List El) (n : Nat) : Prop where
  len : ys.length = n
  out : ∀ t, t < l.length → (t < i ∨ l.length - 1 - i < t) → ys[t]? = l[l.length - 1 - t]?
  mid : ∀ t, i ≤ t → t + i < l.length → ys[t]? = l[t]?
theorem Half.start {l xs : List El} (h : xs.take l.length = l) : Half l 0 xs xs.length := by
  refine ⟨rfl, fun t ht q => by omega, fun t _ ht => ?_⟩
  rw [← h, List.getElem?_take, if_pos (by omega)]
theorem Half.step {l ys : List El} {i n : Nat} (h : Half l i ys n) (hi : 2 * i + 1 < l.length) (hn : l.length ≤ n) : Half l (i + 1) ((ys.set i (ys[l.length - 1 - i]?.getD Z)).set (l.length - 1 - i) (ys[i]?.getD Z)) n := by
  have hl := h.len
  have e1 := h.mid i (Nat.le_refl _) (by omega)
  have e2 := h.mid (l.length - 1 - i) (by omega) (by omega)
  have g1 : ∃ x, l[i]? = some x := ⟨_, List.getElem?_eq_getElem (by omega)⟩
  have g2 : ∃ x, l[l.length - 1 - i]? = some x := ⟨_, List.getElem?_eq_getElem (by omega)⟩
  obtain ⟨x1, g1⟩ := g1
  obtain ⟨x2, g2⟩ := g2
  rw [e1, e2, g1, g2]
  refine ⟨by simp [hl], fun t ht q => ?_, fun t ht q => ?_⟩
  · simp only [List.getElem?_set, List.length_set, Option.getD_some]
    by_cases q1 : l.length - 1 - i = t
    · subst q1
      rw [if_pos rfl, if_pos (by omega), show l.length - 1 - (l.length - 1 - i) = i by omega, g1]
    · rw [if_neg q1]
      by_cases q2 : i = t
      · subst q2
        rw [if_pos rfl, if_pos (by omega), g2]
      · rw [if_neg q2]
        exact h.out t ht (by omega)
  · simp only [List.getElem?_set, List.length_set]
    rw [if_neg (by omega), if_neg (by omega)]
    exact h.mid t (by omega) (by omega)
theorem Half.fin {l ys : List El} {i n : Nat} (h : Half l i ys n) (hi : l.length ≤ 2 * i + 1) (hn : l.length ≤ n) : ys.take l.length = l.reverse := by
  apply List.ext_getElem?
  intro t
  rw [List.getElem?_take]
  by_cases q : t < l.length
  · rw [if_pos q, List.getElem?_reverse q]
    by_cases q1 : t < i ∨ l.length - 1 - i < t
    · exact h.out t q q1
    · rw [h.mid t (by omega) (by omega)]
      congr 1
      omega
  · rw [if_neg q, List.getElem?_eq_none (by simp; omega)]
theorem NR.drewN {B : Nat} {w : World} {v : Value} {l : List El} (h : NR B w v l) (m : Nat) : NR B (w.drewN m) v l := h.keep fun _ _ _ => rfl
end Go.Proofs.YtpibeabokedpdaaGreatDoor.DqPop
end
section
namespace Go.Proofs.YtpibeabokedpdaaGreatDoor.DqPlace
open Go.RowKit
open Go.Proofs.YtpibeabokedpdaaGreatDoor.DqBase
open Go.Proofs.YtpibeabokedpdaaGreatDoor.DqHeld
open Go.Proofs.YtpibeabokedpdaaGreatDoor.DqLay
open Go.Proofs.YtpibeabokedpdaaGreatDoor.DqFree
open Go.Proofs.YtpibeabokedpdaaGreatDoor.DqPush
open Go.Proofs.YtpibeabokedpdaaGreatDoor.DqKeep
open Go.Proofs.YtpibeabokedpdaaGreatDoor.DqPop
set_option linter.unusedVariables false
set_option linter.unusedSimpArgs false
/-- the place that a number means -/
def idx (n : Nat) (i : Int) : Option Nat := if i < 0 then (if i + n < 0 then none else some (i + n).toNat) else if i < n then some i.toNat else none
theorem idx_lt {n : Nat} {i : Int} {k : Nat} (h : idx n i = some k) : k < n := by
  unfold idx at h
  split at h
  · split at h
    · cases h
    · injection h; omega
  · split at h
    · injection h; omega
    · cases h
theorem lim_of {F : Nat → Prop} {b : Nat} {l : List El} {w : World} (h : DQ F b l w) : l.length ≤ 35184372088832 := by
  obtain ⟨a, n, c, f, xs, h⟩ := h
  have := h.fit; have := h.lim; omega
def atS (l : List El) (i : Int) : El × Bool := match idx l.length i with
  | some k => (l[k]?.getD Z, true)
  | none => (Z, false)
def putS (l : List El) (i : Int) (v : El) : List El := match idx l.length i with
  | some k => l.set k v
  | none => l
theorem put_is {xs l : List El} {f k : Nat} {v : El} (h : (xs.drop f).take l.length = l) (hk : k < l.length) : ((xs.set (f + k) v).drop f).take (l.set k v).length = l.set k v := by
  rw [List.length_set, List.drop_set, if_neg (by omega), show f + k - f = k by omega, List.take_set, h]
end Go.Proofs.YtpibeabokedpdaaGreatDoor.DqPlace
end
section
namespace Go.Proofs.YtpibeabokedpdaaGreatDoor.DqPiece
open Go.RowKit
open Go.Proofs.YtpibeabokedpdaaGreatDoor.DqBase
open Go.Proofs.YtpibeabokedpdaaGreatDoor.DqHeld
open Go.Proofs.YtpibeabokedpdaaGreatDoor.DqLay
open Go.Proofs.YtpibeabokedpdaaGreatDoor.DqFree
open Go.Proofs.YtpibeabokedpdaaGreatDoor.DqPush
open Go.Proofs.YtpibeabokedpdaaGreatDoor.DqKeep
open Go.Proofs.YtpibeabokedpdaaGreatDoor.DqPop
open Go.Proofs.YtpibeabokedpdaaGreatDoor.DqPlace
set_option linter.unusedVariables false
set_option linter.unusedSimpArgs false
/-- a number below 0 is counted from the end -/
def ends (n : Nat) (x : Int) : Int := if x < 0 then x + n else x
/-- where a piece begins, and where it has ended -/
def pcF (n : Nat) (x y : Int) : Nat := if max (ends n x) 0 ≤ min (ends n y) (n - 1) then (max (ends n x) 0).toNat else 0
def pcT (n : Nat) (x y : Int) : Nat := if max (ends n x) 0 ≤ min (ends n y) (n - 1) then (min (ends n y) (n - 1) + 1).toNat else 0
theorem pc_le (n : Nat) (x y : Int) : pcF n x y ≤ pcT n x y ∧ pcT n x y ≤ n := by
  unfold pcF pcT
  split <;> omega
def pieceS (l : List El) (x y : Int) : List El := (l.drop (pcF l.length x y)).take (pcT l.length x y - pcF l.length x y)
theorem ret_ii {a b c d : Int} (h : a = c) (k : b = d) : Ending.returned (.tuple #[.int .i64 a, .int .i64 b]) = .returned (.tuple #[.int .i64 c, .int .i64 d]) := by rw [h, k]
end Go.Proofs.YtpibeabokedpdaaGreatDoor.DqPiece
end
section
namespace Go.Proofs.YtpibeabokedpdaaGreatDoor.DqApp
open Go.RowKit
open Go.Proofs.YtpibeabokedpdaaGreatDoor.DqBase
open Go.Proofs.YtpibeabokedpdaaGreatDoor.DqHeld
open Go.Proofs.YtpibeabokedpdaaGreatDoor.DqLay
set_option linter.unusedVariables false
set_option linter.unusedSimpArgs false
theorem take_lay {xs l : List El} {c : Nat} (h : xs.take l.length = l) (m : List El) (hx : l.length + m.length ≤ xs.length) : (lay xs l.length m).take (l ++ m).length = l ++ m := by
  unfold lay
  rw [h, List.take_left']
  rfl
/-- a list appended to a new row -/
theorem app_any {G : Nat → Prop} {B : Nat} {w : World} {v : Value} {l m : List El} {a : Option Addr} {c : Nat} (h : NR B w v l) (hm : Rd G w a m) (hb : (l.length + m.length) * 8 ≤ 140737488355328) (hB : B ≤ w.heap.size) (ty : TypeId) :
    ∃ v' w', (Builtin.append_ #[127, 127] ty #[v, .slice a m.length c]).run Tryz.prog w = .ok v' w' ∧ NR B w' v' (l ++ m) ∧ Below B w w' := by
  obtain ⟨i, hi, hz0, hz1, hz2⟩ := info_parts info3
  by_cases hl : m = []
  · subst hl
    refine ⟨v, w, ?_, by simpa using h, Below.refl _ _⟩
    have hld : ∀ x, (loadCells x 0).run Tryz.prog w = .ok #[] w := fun x => by simpa using run_loadCells_list (P := Tryz.prog) w x [] (by simp)
    rcases h with ⟨rfl, rfl⟩ | ⟨g, cp, xs, rfl, hBg, hr, hx, hlc, ht⟩
    · cases a <;> simp [Builtin.append_, run_underlying Tryz.underlying127, Builtin.lenOf, Builtin.firstCells, sizeOf, typeInfo, hi, hz1, hld]
    · cases a <;> simp [Builtin.append_, run_underlying Tryz.underlying127, Builtin.lenOf, Builtin.firstCells, sizeOf, typeInfo, hi, hz1, hld, hlc, storeCells]
  · have hp : 0 < m.length := List.length_pos_iff.2 hl
    have hs : Src Tryz.prog i.size 127 (.slice a m.length c) m.length (m.map V) w := by rw [hz1]; exact rd_src hm hl c
    by_cases hroom : ∃ g cp xs, v = .slice (some ⟨g, 0, none⟩) l.length cp ∧ B ≤ g ∧ RowIs w g xs ∧ xs.length = cp ∧ xs.take l.length = l ∧ l.length + m.length ≤ cp
    · obtain ⟨g, cp, xs, rfl, hBg, hr, hx, ht, hrm⟩ := hroom
      have hst := run_storeCells_at Tryz.prog g l.length 3 (m.map V) 0 (cells xs) w hr (by rw [List.length_map, cells_size]; omega) (fun v hv => by
        obtain ⟨x, _, rfl⟩ := List.mem_map.1 hv
        rfl)
      simp only [Nat.add_zero] at hst
      have hcl := hs.cells
      rw [hz1] at hcl
      refine ⟨.slice (some ⟨g, 0, none⟩) (l.length + m.length) cp, _, ?_, .inr ⟨g, cp, _, by rw [List.length_append], hBg, hr.lay l.length m, by rw [lay_len (by omega)]; exact hx, by rw [List.length_append]; exact hrm, take_lay (c := cp) ht m (by omega)⟩, ?_⟩
      · simp [Builtin.append_, run_underlying Tryz.underlying127, Builtin.lenOf, sizeOf, typeInfo, hi, hz1, hrm, hcl, Addr.add_lit]
        simp at hst
        rw [hst]
        simp
      · exact (Fr.row (F := fun k => k = g) rfl _).below (Nat.le_trans hB (Nat.le_refl _)) fun k e => by rw [e]; exact hBg
    · have hg : ∃ ba cp, v = .slice ba l.length cp ∧ l.length ≤ cp ∧ cp < l.length + m.length ∧ (Builtin.firstCells i.size l.length (.slice ba l.length cp)).run Tryz.prog w.drew = .ok (l.map V).toArray w.drew := by
        rcases h with ⟨rfl, rfl⟩ | ⟨g, cp, xs, rfl, hBg, hr, hx, hlc, ht⟩
        · exact ⟨none, 0, rfl, Nat.le_refl _, by simpa using hp, by simp [Builtin.firstCells]⟩
        · refine ⟨_, cp, rfl, hlc, ?_, ?_⟩
          · rcases Nat.lt_or_ge cp (l.length + m.length) with q | q
            · exact q
            · exact absurd ⟨g, cp, xs, rfl, hBg, hr, hx, ht, q⟩ hroom
          · refine run_firstCells_some (P := Tryz.prog) w.drew i.size l.length ⟨g, 0, none⟩ l.length cp (l.map V) (by simp [hz1]) ?_
            intro j y hj
            rw [List.getElem?_map] at hj
            obtain ⟨x, hx1, rfl⟩ := Option.map_eq_some_iff.1 hj
            rw [add_off, Nat.zero_add]
            show w.cell? ⟨g, j, none⟩ = _
            rw [hr.cell]
            rw [← ht, List.getElem?_take] at hx1
            split at hx1
            · rw [hx1]; rfl
            · cases hx1
      obtain ⟨ba, cp, rfl, hlc, hlt, hold⟩ := hg
      have hr := run_append_grow_src (P := Tryz.prog) w 127 127 ty 3 i (V Z) Tryz.underlying127 hi hz0 ba l.length cp (l.map V) hold (.slice a m.length c) m.length (m.map V) hs hlt (by omega) (growslice_fits hlt (by rw [hz2]; exact hb))
      have hge := grownCap_ge w (l.length + m.length) cp 3
      refine ⟨_, _, hr, .inr ⟨w.heap.size, grownCap w (l.length + m.length) cp 3, (l ++ m) ++ List.replicate (grownCap w (l.length + m.length) cp 3 - (l.length + m.length)) Z, by rw [List.length_append], hB, ?_, by simp; omega, by rw [List.length_append]; exact hge, List.take_left' rfl⟩, (Below.refl _ w).drew.alloc hB _⟩
      unfold RowIs
      rw [show w.heap.size = w.drew.heap.size from rfl, heap_alloc_new w.drew, zeros_cells]
      simp [cells]
/-- append(l, x) -/
theorem app_one {B : Nat} {w : World} {v : Value} {l : List El} (x : El) (h : NR B w v l) (hb : (l.length + 1) * 8 ≤ 140737488355328) (hB : B ≤ w.heap.size) (ty : TypeId) :
    ∃ v' w', (Builtin.append_ #[127, 127] ty #[v, .slice (some ⟨w.heap.size, 0, none⟩) 1 1]).run Tryz.prog (w.alloc (.cells #[V x] 3)) = .ok v' w' ∧ NR B w' v' (l ++ [x]) ∧ Below B w w' := by
  have b1 := (Below.refl w.heap.size w).alloc (Nat.le_refl _) (.cells #[V x] 3)
  have hm : Rd (fun _ => True) (w.alloc (.cells #[V x] 3)) (some ⟨w.heap.size, 0, none⟩) [x] := by
    refine .inr ⟨w.heap.size, 0, rfl, trivial, fun j y hj => ?_⟩
    rw [Lib.cell_of_heap (heap_alloc_new w _)]
    cases j with
    | zero => simp at hj; subst hj; rfl
    | succ j => simp at hj
  obtain ⟨v', w', h1, h2, h3⟩ := app_any (c := 1) (h.below b1) hm (by simpa using hb) (Nat.le_trans hB b1.size) ty
  exact ⟨v', w', h1, h2, (b1.mono hB).trans h3⟩
end Go.Proofs.YtpibeabokedpdaaGreatDoor.DqApp
end
section
namespace Go.Proofs.YtpibeabokedpdaaGreatDoor.DqSelf
open Go.RowKit
open Go.Proofs.YtpibeabokedpdaaGreatDoor.DqBase
set_option linter.unusedVariables false
set_option linter.unusedSimpArgs false
end Go.Proofs.YtpibeabokedpdaaGreatDoor.DqSelf
end
