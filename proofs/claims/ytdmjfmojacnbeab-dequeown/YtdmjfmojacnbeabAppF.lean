/- append, and what of the memory it leaves as it was. -/
import Derived.Test.YtdmjfmojacnbeabApp
namespace Go.Proofs.Ytdmjfmojacnbeab.AppF
open Go.RowKit
open Go.Proofs.Ytdmjfmojacnbeab.Base
open Go.Proofs.Ytdmjfmojacnbeab.Held
open Go.Proofs.Ytdmjfmojacnbeab.Lay
open Go.Proofs.Ytdmjfmojacnbeab.App
set_option linter.unusedVariables false
set_option linter.unusedSimpArgs false
/-- a slice's own block -/
def own (v : Value) (k : Nat) : Prop := ∃ o n c, v = .slice (some ⟨k, o, none⟩) n c
theorem appF_any {G : Nat → Prop} {B : Nat} {w : World} {v : Value} {l m : List El} {a : Option Addr} {c : Nat} (h : NR B w v l) (hm : Rd G w a m) (hb : (l.length + m.length) * 8 ≤ 140737488355328) (hB : B ≤ w.heap.size) (ty : TypeId) :
    ∃ v' w', (Builtin.append_ #[22, 22] ty #[v, .slice a m.length c]).run Try.prog w = .ok v' w' ∧ NR B w' v' (l ++ m) ∧ Below B w w' ∧ Fr (own v) w w' ∧ ∀ k, own v' k → own v k ∨ w.heap.size ≤ k := by
  obtain ⟨i, hi, hz0, hz1, hz2⟩ := info_parts info3
  by_cases hl : m = []
  · subst hl
    refine ⟨v, w, ?_, by simpa using h, Below.refl _ _, Fr.refl _ _, fun k e => .inl e⟩
    have hld : ∀ x, (loadCells x 0).run Try.prog w = .ok #[] w := fun x => by simpa using run_loadCells_list (P := Try.prog) w x [] (by simp)
    rcases h with ⟨rfl, rfl⟩ | ⟨g, cp, xs, rfl, hBg, hr, hx, hlc, ht⟩
    · cases a <;> simp [Builtin.append_, run_underlying Try.underlying22, Builtin.lenOf, Builtin.firstCells, sizeOf, typeInfo, hi, hz1, hld]
    · cases a <;> simp [Builtin.append_, run_underlying Try.underlying22, Builtin.lenOf, Builtin.firstCells, sizeOf, typeInfo, hi, hz1, hld, hlc, storeCells]
  · have hp : 0 < m.length := List.length_pos_iff.2 hl
    have hs : Src Try.prog i.size 22 (.slice a m.length c) m.length (m.map V) w := by rw [hz1]; exact rd_src hm hl c
    by_cases hroom : ∃ g cp xs, v = .slice (some ⟨g, 0, none⟩) l.length cp ∧ B ≤ g ∧ RowIs w g xs ∧ xs.length = cp ∧ xs.take l.length = l ∧ l.length + m.length ≤ cp
    · obtain ⟨g, cp, xs, rfl, hBg, hr, hx, ht, hrm⟩ := hroom
      have hst := run_storeCells_at Try.prog g l.length 3 (m.map V) 0 (cells xs) w hr (by rw [List.length_map, cells_size]; omega) (fun v hv => by
        obtain ⟨x, _, rfl⟩ := List.mem_map.1 hv
        rfl)
      simp only [Nat.add_zero] at hst
      have hcl := hs.cells
      rw [hz1] at hcl
      refine ⟨.slice (some ⟨g, 0, none⟩) (l.length + m.length) cp, _, ?_, .inr ⟨g, cp, _, by rw [List.length_append], hBg, hr.lay l.length m, by rw [lay_len (by omega)]; exact hx, by rw [List.length_append]; exact hrm, take_lay (c := cp) ht m (by omega)⟩, ?_, ?_, fun k ⟨o, n, c, e⟩ => .inl (by injection e with e1 e2 e3; injection e1 with e1; injection e1 with e1 e4; subst e1; exact ⟨0, _, _, rfl⟩)⟩
      · simp [Builtin.append_, run_underlying Try.underlying22, Builtin.lenOf, sizeOf, typeInfo, hi, hz1, hrm, hcl, Addr.add_lit]
        simp at hst
        rw [hst]
        simp
      · exact (Fr.row (F := fun k => k = g) rfl _).below (Nat.le_trans hB (Nat.le_refl _)) fun k e => by rw [e]; exact hBg
      · exact Fr.row (F := own (.slice (some ⟨g, 0, none⟩) l.length cp)) ⟨0, _, _, rfl⟩ _
    · have hg : ∃ ba cp, v = .slice ba l.length cp ∧ l.length ≤ cp ∧ cp < l.length + m.length ∧ (Builtin.firstCells i.size l.length (.slice ba l.length cp)).run Try.prog w.drew = .ok (l.map V).toArray w.drew := by
        rcases h with ⟨rfl, rfl⟩ | ⟨g, cp, xs, rfl, hBg, hr, hx, hlc, ht⟩
        · exact ⟨none, 0, rfl, Nat.le_refl _, by simpa using hp, by simp [Builtin.firstCells]⟩
        · refine ⟨_, cp, rfl, hlc, ?_, ?_⟩
          · rcases Nat.lt_or_ge cp (l.length + m.length) with q | q
            · exact q
            · exact absurd ⟨g, cp, xs, rfl, hBg, hr, hx, ht, q⟩ hroom
          · refine run_firstCells_some (P := Try.prog) w.drew i.size l.length ⟨g, 0, none⟩ l.length cp (l.map V) (by simp [hz1]) ?_
            intro j y hj
            rw [List.getElem?_map] at hj
            obtain ⟨x, hx1, rfl⟩ := Option.map_eq_some_iff.1 hj
            rw [add_off, Nat.zero_add]
            show w.cell? ⟨g, j, none⟩ = _
            rw [hr.cell]
            rw [← ht, List.getElem?_take] at hx1
            split at hx1
            · rw [hx1]; rfl
            · cases hx1
      obtain ⟨ba, cp, rfl, hlc, hlt, hold⟩ := hg
      have hr := run_append_grow_src (P := Try.prog) w 22 22 ty 3 i (V Z) Try.underlying22 hi hz0 ba l.length cp (l.map V) hold (.slice a m.length c) m.length (m.map V) hs hlt (by omega) (growslice_fits hlt (by rw [hz2]; exact hb))
      have hge := grownCap_ge w (l.length + m.length) cp 3
      refine ⟨_, _, hr, .inr ⟨w.heap.size, grownCap w (l.length + m.length) cp 3, (l ++ m) ++ List.replicate (grownCap w (l.length + m.length) cp 3 - (l.length + m.length)) Z, by rw [List.length_append], hB, ?_, by simp; omega, by rw [List.length_append]; exact hge, List.take_left' rfl⟩, (Below.refl _ w).drew.alloc hB _, ((Fr.refl _ w).drew).alloc _, fun k ⟨o, n, c, e⟩ => .inr (by injection e with e1 e2 e3; injection e1 with e1; injection e1 with e1 e4; subst e1; exact Nat.le_refl _)⟩
      unfold RowIs
      rw [show w.heap.size = w.drew.heap.size from rfl, heap_alloc_new w.drew, zeros_cells]
      simp [cells]
theorem appF_one {B : Nat} {w : World} {v : Value} {l : List El} (x : El) (h : NR B w v l) (hb : (l.length + 1) * 8 ≤ 140737488355328) (hB : B ≤ w.heap.size) (ty : TypeId) :
    ∃ v' w', (Builtin.append_ #[22, 22] ty #[v, .slice (some ⟨w.heap.size, 0, none⟩) 1 1]).run Try.prog (w.alloc (.cells #[V x] 3)) = .ok v' w' ∧ NR B w' v' (l ++ [x]) ∧ Below B w w' ∧ Fr (own v) w w' ∧ ∀ k, own v' k → own v k ∨ w.heap.size ≤ k := by
  have b1 := (Below.refl w.heap.size w).alloc (Nat.le_refl _) (.cells #[V x] 3)
  have hm : Rd (fun _ => True) (w.alloc (.cells #[V x] 3)) (some ⟨w.heap.size, 0, none⟩) [x] := by
    refine .inr ⟨w.heap.size, 0, rfl, trivial, fun j y hj => ?_⟩
    rw [Lib.cell_of_heap (heap_alloc_new w _)]
    cases j with
    | zero => simp at hj; subst hj; rfl
    | succ j => simp at hj
  obtain ⟨v', w', h1, h2, h3, h4, h5⟩ := appF_any (c := 1) (h.below b1) hm (by simpa using hb) (Nat.le_trans hB b1.size) ty
  exact ⟨v', w', h1, h2, (b1.mono hB).trans h3, ⟨b1.os ▸ h4.os, b1.tape ▸ h4.tape, b1.output ▸ h4.output, Nat.le_trans b1.size h4.size, fun k hk hn => (h4.block k (Nat.lt_of_lt_of_le hk b1.size) hn).trans (b1.block k hk)⟩, fun k e => (h5 k e).imp id fun q => Nat.le_trans b1.size q⟩
/-- a row of n places that may be spoilt: of a block that P has -/
def Nz (P : Nat → Prop) (n : Nat) (v : Value) (W : World) : Prop := (v = .slice none 0 0 ∧ n = 0) ∨ ∃ g c xs, v = .slice (some ⟨g, 0, none⟩) n c ∧ P g ∧ RowIs W g xs ∧ xs.length = c ∧ n ≤ c
theorem Nz.of {B : Nat} {W : World} {v : Value} {l : List El} (h : NR B W v l) : Nz (fun k => B ≤ k ∧ k < W.heap.size) l.length v W := by
  rcases h with ⟨e, h0⟩ | ⟨g, c, xs, e, hB, hr, hx, hl, ht⟩
  · exact .inl ⟨e, by rw [h0]; rfl⟩
  · exact .inr ⟨g, c, xs, e, ⟨hB, hr.lt⟩, hr, hx, hl⟩
theorem Nz.mono {P Q : Nat → Prop} {n : Nat} {v : Value} {W : World} (h : Nz P n v W) (hq : ∀ k, P k → Q k) : Nz Q n v W := by
  rcases h with h | ⟨g, c, xs, e, hP, r⟩
  · exact .inl h
  · exact .inr ⟨g, c, xs, e, hq g hP, r⟩
theorem Nz.nr {P : Nat → Prop} {n : Nat} {v : Value} {W : World} (h : Nz P n v W) : ∃ l : List El, l.length = n ∧ NR 0 W v l := by
  rcases h with ⟨e, h0⟩ | ⟨g, c, xs, e, hP, hr, hx, hn⟩
  · exact ⟨[], h0.symm, .inl ⟨e, rfl⟩⟩
  · have hl : (xs.take n).length = n := by rw [List.length_take]; omega
    exact ⟨xs.take n, hl, .inr ⟨g, c, xs, by rw [hl]; exact e, Nat.zero_le _, hr, hx, by rw [hl]; exact hn, by rw [hl]⟩⟩
theorem Nz.own {P : Nat → Prop} {n : Nat} {v : Value} {W : World} (h : Nz P n v W) : ∀ k, AppF.own v k → P k := fun k ⟨o, m, c, e⟩ => by
  rcases h with ⟨e', _⟩ | ⟨g, c', xs, e', hP, _⟩
  · rw [e'] at e; cases e
  · rw [e'] at e; injection e with e1 e2 e3; injection e1 with e1; injection e1 with e1 e4; subst e1; exact hP
theorem Nz.fr {P G : Nat → Prop} {n : Nat} {v : Value} {W W' : World} (h : Nz P n v W) (f : Fr G W W') (hG : ∀ k, P k → ¬ G k) : Nz P n v W' := by
  rcases h with h | ⟨g, c, xs, e, hP, hr, q⟩
  · exact .inl h
  · exact .inr ⟨g, c, xs, e, hP, (f.block g hr.lt (hG g hP)).trans hr, q⟩
theorem Nz.below {P : Nat → Prop} {n : Nat} {v : Value} {W W' : World} (h : Nz P n v W) (k : Below W.heap.size W W') : Nz P n v W' := h.fr (Fr.of_below (F := fun _ => False) k) fun _ _ e => e
theorem Nz.lt {P : Nat → Prop} {n : Nat} {v : Value} {W : World} (h : Nz P n v W) : Nz (fun k => P k ∧ k < W.heap.size) n v W := by
  rcases h with h | ⟨g, c, xs, e, hP, hr, q⟩
  · exact .inl h
  · exact .inr ⟨g, c, xs, e, ⟨hP, hr.lt⟩, hr, q⟩
theorem Nz.get {P : Nat → Prop} {n i : Nat} {a : Option Addr} {c : Nat} {W : World} (h : Nz P n (.slice a n c) W) (hi : i < n) : ∃ g, a = some ⟨g, 0, none⟩ ∧ P g ∧ (∃ y, W.cell? ⟨g, i, none⟩ = some (V y)) ∧ W.frozen? ⟨g, i, none⟩ = false ∧ ∀ x : El, Nz P n (.slice a n c) (W.setCell ⟨g, i, none⟩ (V x)) := by
  rcases h with ⟨_, h0⟩ | ⟨g, c', xs, e, hP, hr, hx, hn⟩
  · omega
  · injection e with e1 e2 e3
    subst e1 e3
    exact ⟨g, rfl, hP, ⟨_, by rw [hr.cell, List.getElem?_eq_getElem (by omega)]; rfl⟩, hr.frozen i, fun x => .inr ⟨g, _, _, rfl, hP, hr.set i x, by rw [List.length_set]; exact hx, hn⟩⟩
/-- append of one to such a row -/
theorem appZ {P : Nat → Prop} {n : Nat} {v : Value} {w : World} (x : El) (h : Nz P n v w) (hb : (n + 1) * 8 ≤ 140737488355328) :
    ∃ a c w', (Builtin.append_ #[22, 22] 22 #[v, .slice (some ⟨w.heap.size, 0, none⟩) 1 1]).run Try.prog (w.alloc (.cells #[V x] 3)) = .ok (.slice a (n + 1) c) w' ∧ Nz (fun k => P k ∨ w.heap.size ≤ k) (n + 1) (.slice a (n + 1) c) w' ∧ Fr P w w' := by
  obtain ⟨l, hl, hn⟩ := h.nr
  obtain ⟨v', w', h1, h2, h3, h4, h5⟩ := appF_one x hn (by rw [hl]; exact hb) (Nat.zero_le _) 22
  have hz := Nz.of h2
  have hlen : (l ++ [x]).length = n + 1 := by rw [List.length_append, hl]; rfl
  rw [hlen] at hz
  rcases hz with ⟨_, e⟩ | ⟨g, c, xs, rfl, _, q⟩
  · omega
  · exact ⟨_, c, w', h1, .inr ⟨g, c, xs, rfl, (h5 g ⟨0, _, _, rfl⟩).imp (h.own g) id, q⟩, ⟨h4.os, h4.tape, h4.output, h4.size, fun k hk hn => h4.block k hk fun e => hn (h.own k e)⟩⟩
end Go.Proofs.Ytdmjfmojacnbeab.AppF
