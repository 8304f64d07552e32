/- slices.Equal over fields, entries and texts. Of: a copy, sorted, freed of what stands twice; Has. Values in memory; slices.Clone; the copy of a value. The document's Of: each element put where it belongs. -/
import Derived.Test.YtpibeabokedpdaaGreatDoorFRowM
import Derived.Test.YtpibeabokedpdaaGreatDoorShelfM
import Derived.Test.YtpibeabokedpdaaGreatDoorBaseM
section
namespace Go.Proofs.YtpibeabokedpdaaGreatDoor.Equal
open Go.RowKit Go.Maps
open Go.Proofs.YtpibeabokedpdaaGreatDoor.SetMath
open Go.Proofs.YtpibeabokedpdaaGreatDoor.Base
open Go.Proofs.YtpibeabokedpdaaGreatDoor.Neq
set_option linter.unusedVariables false

end Go.Proofs.YtpibeabokedpdaaGreatDoor.Equal
end
section
namespace Go.Proofs.YtpibeabokedpdaaGreatDoor.Of
open Go.RowKit Go.Sort
open Go.Proofs.YtpibeabokedpdaaGreatDoor.SetMath
open Go.Proofs.YtpibeabokedpdaaGreatDoor.Base
set_option linter.unusedVariables false
set_option linter.unusedSimpArgs false
theorem clone_call {G : Nat → Prop} {w : World} {v : Value} {l : List El} (h : SL G w v l) (hb : l.length * 16 ≤ 140737488355328) :
    Calls Tryz.prog 96 #[v] w fun e w' => ∃ r, e = .returned r ∧ NR w.heap.size w' r l ∧ Below w.heap.size w w' := by
  obtain ⟨a, c, rfl, hc, hr⟩ := h
  cases a with
  | none =>
    have h0 : l = [] := by
      rcases hr with h | ⟨g, o, e, _⟩
      · exact h
      · cases e
    subst h0
    refine (Tryz.slices_Clone_string_nil 0 c w).mono ?_
    rintro e w' ⟨rfl, rfl⟩
    exact ⟨_, rfl, .inl ⟨rfl, rfl⟩, Below.refl _ _⟩
  | some a =>
    by_cases h0 : l = []
    · subst h0
      refine (Tryz.slices_Clone_string_zero a c w).mono ?_
      rintro e w' ⟨v', rfl, ho, _, hbl⟩
      exact ⟨v', rfl, NR.of_owns ho, hbl⟩
    · obtain ⟨g, o, e, _, hcell⟩ := Rd.get hr (List.length_pos_iff.2 h0)
      cases e
      refine (Tryz.slices_Clone_string g o l.length c (l.map mk) w (by simp) hb (fun j hj => ?_)).mono ?_
      · have hj' : j < l.length := by simpa using hj
        rw [hcell j l[j] (List.getElem?_eq_getElem hj')]
        simp [List.getD, hj']
      · rintro e w' ⟨v', rfl, ho, _, hbl⟩
        refine ⟨v', rfl, NR.of_owns ?_, hbl⟩
        rw [List.take_of_length_le (by simp), List.map_map] at ho
        exact ho
theorem sort_call {B : Nat} {w : World} {v : Value} {l : List El} (h : NR B w v l) (hb : l.length < 4611686018427387904) (hB : B ≤ w.heap.size) :
    Calls Tryz.prog 27 #[v] w fun e w' => e = .returned (.tuple #[]) ∧ NR B w' v (l.mergeSort leS) ∧ Below B w w' := by
  have hlen : (l.mergeSort leS).length = l.length := List.length_mergeSort l
  rcases h with ⟨rfl, rfl⟩ | ⟨g, c, cur, rfl, hBg, hr, hx, hl, ht⟩
  · refine (Tryz.slices_Sort_string_none none 0 w).mono ?_
    rintro e w' ⟨rfl, rfl⟩
    exact ⟨rfl, .inl ⟨rfl, by simp⟩, Below.refl _ _⟩
  · by_cases h0 : l = []
    · subst h0
      refine (Tryz.slices_Sort_string_none _ c w).mono ?_
      rintro e w' ⟨rfl, rfl⟩
      exact ⟨rfl, .inr ⟨g, c, cur, by simp, hBg, hr, hx, by simp, by simp⟩, Below.refl _ _⟩
    · have hH : Holds encStr w g 0 l.toArray := holds_of_block hr ht
      refine (Tryz.slices_Sort_string g 0 c l w hH (lt_of hr) hb).mono ?_
      rintro e w' ⟨rfl, n, os, rfl⟩
      refine ⟨rfl, .inr ⟨g, c, _, by rw [hlen], hBg, heap_sorted _ hr, by simp [putCells]; exact hx, by rw [hlen]; exact hl, take_putCells cur (l.mergeSort leS) (by rw [hlen]; omega)⟩, (Below.refl B w).grown (grownBy_sorted _) hB (fun j hj => by cases hj; exact hBg)⟩
theorem heap_put {w : World} {g n : Nat} {cur : Array Value} {e : TypeId} {fr : Nat × Nat} (d : Array (List UInt8)) (hb : w.heap[g]? = some (.cells cur e fr)) :
    (putRow encStr (Sort.ahead w n) g 0 d).heap[g]? = some (.cells (putCells encStr 0 d cur) e fr) := by
  simp [putRow, mapBlock, Sort.ahead, Array.getElem?_modify, hb, onCells]
theorem below_put {w : World} {B g n : Nat} (d : Array (List UInt8)) (hB : B ≤ g) : Below B w (putRow encStr (Sort.ahead w n) g 0 d) := by
  refine ⟨rfl, rfl, rfl, by simp [putRow, mapBlock, Sort.ahead], fun k hk => ?_⟩
  have : g ≠ k := by omega
  simp [putRow, mapBlock, Sort.ahead, Array.getElem?_modify, this]
theorem compact_call {B : Nat} {w : World} {v : Value} {l : List El} (h : NR B w v l) (hb : l.length < 4611686018427387904) (hB : B ≤ w.heap.size) :
    Calls Tryz.prog 278 #[v] w fun e w' => ∃ r, e = .returned r ∧ NR B w' r (Lib.compact l) ∧ Below B w w' := by
  have hle := comp_len l
  rcases h with ⟨rfl, rfl⟩ | ⟨g, c, cur, rfl, hBg, hr, hx, hl, ht⟩
  · refine (Tryz.slices_Compact_string_empty none 0 w).mono ?_
    rintro e w' ⟨rfl, rfl⟩
    exact ⟨_, rfl, .inl ⟨rfl, rfl⟩, Below.refl _ _⟩
  · by_cases h0 : l = []
    · subst h0
      refine (Tryz.slices_Compact_string_empty _ c w).mono ?_
      rintro e w' ⟨rfl, rfl⟩
      exact ⟨_, rfl, .inr ⟨g, c, cur, rfl, hBg, hr, hx, by simp [Lib.compact, Lib.compactUpTo], by simp [Lib.compact, Lib.compactUpTo]⟩, Below.refl _ _⟩
    · have hH : Holds encStr w g 0 l.toArray := holds_of_block hr ht
      refine (Tryz.slices_Compact_string g 0 c l w hH (by omega) hl).mono ?_
      rintro e w' ⟨rfl, q, rfl⟩
      refine ⟨_, rfl, .inr ⟨g, c, _, rfl, hBg, heap_put _ hr, by simp [putCells]; exact hx, by omega, ?_⟩, below_put _ hBg⟩
      have h1 := take_putCells cur (Lib.compact l ++ List.replicate (l.length - (Lib.compact l).length) []) (by simp; omega)
      have h2 := congrArg (List.take (Lib.compact l).length) h1
      rw [List.take_take, Nat.min_eq_left (by simp), List.map_append, List.take_left' (by simp)] at h2
      exact h2
set_option maxRecDepth 100000 in
theorem of_call {G : Nat → Prop} {w : World} {v : Value} {l : List El} (h : SL G w v l) (hb : l.length * 16 ≤ 140737488355328) :
    Calls Tryz.prog 274 #[v] w fun e w' => ∃ r, e = .returned r ∧ NR w.heap.size w' r (S l) ∧ Below w.heap.size w w' := by
  have HC := hid_of (clone_call h hb)
  obtain ⟨a, c, rfl, _, _⟩ := h
  go_enter Tryz.func274, Tryz.ntmps274
  go_wp2_with fail
  refine HC.out.mono ?_
  rintro e w1 ⟨r, rfl, n1, b1⟩
  have HS := hid_of (sort_call n1 (by omega) b1.size)
  obtain ⟨ra, rc, rfl, _⟩ := n1.shape
  have B1 := hid_of b1
  clear n1 b1
  go_wp2_with fail
  refine HS.out.mono ?_
  rintro e w2 ⟨rfl, n2, b2⟩
  have HK := hid_of (compact_call n2 (by rw [List.length_mergeSort]; omega) (Nat.le_trans B1.out.size b2.size))
  have B2 := hid_of (B1.out.trans b2)
  clear n2 b2
  go_wp2_with fail
  refine HK.out.mono ?_
  rintro e w3 ⟨r3, rfl, n3, b3⟩
  have N3 := hid_of (And.intro n3 (B2.out.trans b3))
  obtain ⟨ra3, rc3, rfl, _⟩ := n3.shape
  clear n3 b3
  go_wp2_with fail
  go_ret
  exact ⟨_, rfl, N3.out⟩
theorem contains_eq (l : List El) (m : Bs) : Lib.containsS ((l.map mk).take l.length) (mk m) = decide (m ∈ l) := by
  rw [Bool.eq_iff_iff, Lib.containsS_iff, decide_eq_true_eq, List.take_of_length_le (by simp), List.mem_map]
  constructor
  · rintro ⟨x, hx, e⟩
    rw [← mk_inj e]; exact hx
  · intro h
    exact ⟨m, h, rfl⟩
end Go.Proofs.YtpibeabokedpdaaGreatDoor.Of
end
section
namespace Go.Proofs.YtpibeabokedpdaaGreatDoor.Vals
open Go.RowKit Go.Maps
open Go.Proofs.YtpibeabokedpdaaGreatDoor.SetMath
open Go.Proofs.YtpibeabokedpdaaGreatDoor.ValueMath
open Go.Proofs.YtpibeabokedpdaaGreatDoor.Base
set_option linter.unusedVariables false

theorem madeFRow (w : World) : FRow.Bd w (.slice (some ⟨w.heap.size, 0, none⟩) 0 0) [] (w.alloc (.cells #[] 148)) := ⟨World.ownsRow_made w #[] 0 (Nat.le_refl _) (Nat.zero_le _) (by simp), FRow.bnew w _⟩
theorem eqlnFRow (a : Addr) (n c : Nat) (w : World) : (binOp .eql 37 (.slice (some a) n c) (.slice none 0 0)).run Tryz.prog w = .ok (.bool false) w := Lib.run_eql_slice_nil w _ _ (some a) n c 0 0 Tryz.underlying37
set_option maxHeartbeats 1000000 in
set_option maxRecDepth 100000 in
theorem cloneFRow {w : World} {v : Value} {l : FRow.LL} (h : FRow.FS w v l) (hn : l.length ≤ FRow.big) : Calls Tryz.prog 97 #[v] w fun e w' => ∃ v', e = .returned v' ∧ FRow.OR w.heap.size w' v' l ∧ Below w.heap.size w w' := by
  have hF := h
  obtain ⟨a, c, rfl, hc, h⟩ := h
  cases a with
  | none =>
    have hl : l = [] := by rcases h with h | ⟨g, o, e, _⟩; exact h; cases e
    subst hl
    clear h hF
    show Calls Tryz.prog 97 #[.slice none 0 c] w _
    have hq : ∀ W, (binOp .eql 37 (.slice none 0 c) (.slice none 0 0)).run Tryz.prog W = .ok (.bool true) W := fun W => Lib.run_eql_slice_nil W _ _ none 0 c 0 0 Tryz.underlying37
    go_enter Tryz.func97, Tryz.ntmps97
    go_wp2
    go_ret
    exact ⟨_, rfl, FRow.or_nil _ _, Below.refl _ _⟩
  | some a =>
    have hq := eqlnFRow a l.length c
    obtain ⟨v', W', hr, hbd⟩ := FRow.bd_app (madeFRow w) (.slice (some a) l.length c) l (hF.below (FRow.bnew w _)) (by simpa using hn)
    have HB := hid_of hbd
    clear hbd hF h
    go_enter Tryz.func97, Tryz.ntmps97
    go_wp2_with (at_builtin; refine wpl_eq rfl _ _ 37 37 rfl (.slice (some ⟨w.heap.size, 0, none⟩) 0 0) (.slice (some a) l.length c) v' _ W' rfl rfl hr ?_)
    go_ret
    exact ⟨v', rfl, HB.out.row, HB.out.bel⟩
theorem shapeFRow {B : Nat} {w : World} {v : Value} {l : FRow.LL} (h : FRow.OR B w v l) : ∃ a c, v = .slice a l.length c := by
  obtain ⟨a, c, e, _⟩ := FRow.fs_row h
  exact ⟨a, c, e⟩

theorem madeERow (w : World) : ERow.Bd w (.slice (some ⟨w.heap.size, 0, none⟩) 0 0) [] (w.alloc (.cells #[] 151)) := ⟨World.ownsRow_made w #[] 0 (Nat.le_refl _) (Nat.zero_le _) (by simp), ERow.bnew w _⟩
theorem eqlnERow (a : Addr) (n c : Nat) (w : World) : (binOp .eql 38 (.slice (some a) n c) (.slice none 0 0)).run Tryz.prog w = .ok (.bool false) w := Lib.run_eql_slice_nil w _ _ (some a) n c 0 0 Tryz.underlying38
set_option maxHeartbeats 1000000 in
set_option maxRecDepth 100000 in
theorem cloneERow {w : World} {v : Value} {l : ERow.LL} (h : ERow.FS w v l) (hn : l.length ≤ ERow.big) : Calls Tryz.prog 98 #[v] w fun e w' => ∃ v', e = .returned v' ∧ ERow.OR w.heap.size w' v' l ∧ Below w.heap.size w w' := by
  have hF := h
  obtain ⟨a, c, rfl, hc, h⟩ := h
  cases a with
  | none =>
    have hl : l = [] := by rcases h with h | ⟨g, o, e, _⟩; exact h; cases e
    subst hl
    clear h hF
    show Calls Tryz.prog 98 #[.slice none 0 c] w _
    have hq : ∀ W, (binOp .eql 38 (.slice none 0 c) (.slice none 0 0)).run Tryz.prog W = .ok (.bool true) W := fun W => Lib.run_eql_slice_nil W _ _ none 0 c 0 0 Tryz.underlying38
    go_enter Tryz.func98, Tryz.ntmps98
    go_wp2
    go_ret
    exact ⟨_, rfl, ERow.or_nil _ _, Below.refl _ _⟩
  | some a =>
    have hq := eqlnERow a l.length c
    obtain ⟨v', W', hr, hbd⟩ := ERow.bd_app (madeERow w) (.slice (some a) l.length c) l (hF.below (ERow.bnew w _)) (by simpa using hn)
    have HB := hid_of hbd
    clear hbd hF h
    go_enter Tryz.func98, Tryz.ntmps98
    go_wp2_with (at_builtin; refine wpl_eq rfl _ _ 38 38 rfl (.slice (some ⟨w.heap.size, 0, none⟩) 0 0) (.slice (some a) l.length c) v' _ W' rfl rfl hr ?_)
    go_ret
    exact ⟨v', rfl, HB.out.row, HB.out.bel⟩
theorem shapeERow {B : Nat} {w : World} {v : Value} {l : ERow.LL} (h : ERow.OR B w v l) : ∃ a c, v = .slice a l.length c := by
  obtain ⟨a, c, e, _⟩ := ERow.fs_row h
  exact ⟨a, c, e⟩

abbrev TT : Nat → Prop := fun _ => True
theorem box5 {w : World} {b : Nat} {x0 x1 x2 x3 x4 : Value} {t : TypeId} (h : w.heap[b]? = some (.cells #[x0, x1, x2, x3, x4] t (0, 0))) :
    (w.cell? ⟨b, 0, none⟩ = some x0 ∧ w.cell? ⟨b, 1, none⟩ = some x1 ∧ w.cell? ⟨b, 2, none⟩ = some x2 ∧ w.cell? ⟨b, 3, none⟩ = some x3 ∧ w.cell? ⟨b, 4, none⟩ = some x4) ∧ ∀ i, w.frozen? ⟨b, i, none⟩ = false :=
  ⟨⟨Lib.cell_of_heap h 0, Lib.cell_of_heap h 1, Lib.cell_of_heap h 2, Lib.cell_of_heap h 3, Lib.cell_of_heap h 4⟩, fun i => Lib.frozen_of_heap h i⟩
theorem box3 {w : World} {b : Nat} {x0 x1 x2 : Value} {t : TypeId} (h : w.heap[b]? = some (.cells #[x0, x1, x2] t (0, 0))) :
    (w.cell? ⟨b, 0, none⟩ = some x0 ∧ w.cell? ⟨b, 1, none⟩ = some x1 ∧ w.cell? ⟨b, 2, none⟩ = some x2) ∧ ∀ i, w.frozen? ⟨b, i, none⟩ = false :=
  ⟨⟨Lib.cell_of_heap h 0, Lib.cell_of_heap h 1, Lib.cell_of_heap h 2⟩, fun i => Lib.frozen_of_heap h i⟩
theorem box2 {w : World} {b : Nat} {x0 x1 : Value} {t : TypeId} (h : w.heap[b]? = some (.cells #[x0, x1] t (0, 0))) :
    (w.cell? ⟨b, 0, none⟩ = some x0 ∧ w.cell? ⟨b, 1, none⟩ = some x1) ∧ ∀ i, w.frozen? ⟨b, i, none⟩ = false :=
  ⟨⟨Lib.cell_of_heap h 0, Lib.cell_of_heap h 1⟩, fun i => Lib.frozen_of_heap h i⟩
/- a value that is read -/
def VA (w : World) (v : Value) (x : Vl) : Prop := ∃ a b c, v = .agg #[.int .i64 x.kind, .string (mk x.text), a, b, c] ∧ SL TT w a x.list ∧ FRow.FS w b x.fields ∧ ERow.FS w c x.ranked
/- a value in new memory, from block B on -/
def VN (B : Nat) (w : World) (v : Value) (x : Vl) : Prop := ∃ a b c, v = .agg #[.int .i64 x.kind, .string (mk x.text), a, b, c] ∧ NR B w a x.list ∧ FRow.OR B w b x.fields ∧ ERow.OR B w c x.ranked
structure Fit (x : Vl) : Prop where
  l : x.list.length * 16 ≤ 140737488355328
  f : x.fields.length ≤ FRow.big
  r : x.ranked.length ≤ ERow.big
theorem nr_sl {B : Nat} {w : World} {v : Value} {l : List El} (h : NR B w v l) : SL TT w v l := h.sl.mono fun _ _ _ => trivial
theorem VN.va {B : Nat} {w : World} {v : Value} {x : Vl} (h : VN B w v x) : VA w v x := by
  obtain ⟨a, b, c, rfl, h1, h2, h3⟩ := h
  exact ⟨a, b, c, rfl, nr_sl h1, FRow.fs_row h2, ERow.fs_row h3⟩
theorem VA.below {w w' : World} {v : Value} {x : Vl} (h : VA w v x) (hb : Below w.heap.size w w') : VA w' v x := by
  obtain ⟨a, b, c, rfl, h1, h2, h3⟩ := h
  exact ⟨a, b, c, rfl, h1.below hb, h2.below hb, h3.below hb⟩
theorem VN.below {B : Nat} {w w' : World} {v : Value} {x : Vl} (h : VN B w v x) (hb : Below w.heap.size w w') : VN B w' v x := by
  obtain ⟨a, b, c, rfl, h1, h2, h3⟩ := h
  exact ⟨a, b, c, rfl, h1.below hb, FRow.row_below h2 hb, ERow.row_below h3 hb⟩
theorem VN.mono {B B' : Nat} {w : World} {v : Value} {x : Vl} (h : VN B w v x) (hB : B' ≤ B) : VN B' w v x := by
  obtain ⟨a, b, c, rfl, h1, h2, h3⟩ := h
  exact ⟨a, b, c, rfl, h1.mono hB, FRow.row_mono h2 hB, ERow.row_mono h3 hB⟩
theorem bset {B : Nat} {w w' : World} (h : Below B w w') {b i : Nat} (hb : B ≤ b) (v : Value) : Below B w (w'.setCell ⟨b, i, none⟩ v) := h.setCell hb v
theorem seton {w : World} {b i : Nat} {v : Value} {B : Nat} (hB : B ≤ b) : Below B w (w.setCell ⟨b, i, none⟩ v) := (Below.refl B w).setCell hB v
end Go.Proofs.YtpibeabokedpdaaGreatDoor.Vals
end
section
namespace Go.Proofs.YtpibeabokedpdaaGreatDoor.ROf
open Go.RowKit Go.Sort
open Go.Proofs.YtpibeabokedpdaaGreatDoor.SetMath
open Go.Proofs.YtpibeabokedpdaaGreatDoor.Base
open Go.Proofs.YtpibeabokedpdaaGreatDoor.Small
set_option linter.unusedVariables false
set_option linter.unusedSimpArgs false
/-- a row that there is -/
def RW (B : Nat) (w : World) (g c : Nat) (l : List El) : Prop := B ≤ g ∧ ∃ cur, w.heap[g]? = some (.cells cur 9 (0, 0)) ∧ cur.size = c ∧ l.length ≤ c ∧ cur.toList.take l.length = l.map V
theorem NR.row {B : Nat} {w : World} {v : Value} {l : List El} (h : NR B w v l) (hl : 0 < l.length) : ∃ g c, v = .slice (some ⟨g, 0, none⟩) l.length c ∧ RW B w g c l := by
  rcases h with ⟨rfl, rfl⟩ | ⟨g, c, cur, rfl, r⟩
  · simp at hl
  · exact ⟨g, c, rfl, r.1, cur, r.2⟩
theorem RW.nr {B : Nat} {w : World} {g c : Nat} {l : List El} (h : RW B w g c l) : NR B w (.slice (some ⟨g, 0, none⟩) l.length c) l := by
  obtain ⟨h1, cur, h2⟩ := h
  exact .inr ⟨g, c, cur, rfl, h1, h2⟩
theorem RW.cell {B : Nat} {w : World} {g c : Nat} {l : List El} (h : RW B w g c l) {j : Nat} {x : El} (hj : l[j]? = some x) : w.cell? ⟨g, j, none⟩ = some (.string (mk x)) := by
  obtain ⟨h1, cur, h2, h3, h4, h5⟩ := h
  rw [Lib.cell_of_heap h2]
  exact row_at h5 hj
theorem RW.frozen {B : Nat} {w : World} {g c : Nat} {l : List El} (h : RW B w g c l) (j : Nat) : w.frozen? ⟨g, j, none⟩ = false := by
  obtain ⟨h1, cur, h2, _⟩ := h
  exact Lib.frozen_of_heap h2 j
theorem RW.drewN {B : Nat} {w : World} {g c : Nat} {l : List El} (h : RW B w g c l) (n : Nat) : RW B (w.drewN n) g c l := h
theorem RW.len {B : Nat} {w : World} {g c : Nat} {l : List El} (h : RW B w g c l) : l.length ≤ c := by
  obtain ⟨h1, cur, h2, h3, h4, h5⟩ := h
  exact h4
theorem RW.set {B : Nat} {w : World} {g c : Nat} {l : List El} (h : RW B w g c l) (j : Nat) (y : El) : RW B (w.setCell ⟨g, j, none⟩ (.string (mk y))) g c (l.set j y) := by
  obtain ⟨h1, cur, h2, h3, h4, h5⟩ := h
  refine ⟨h1, _, set_at h2 _, by simpa using h3, by simpa using h4, ?_⟩
  rw [Array.toList_setIfInBounds, List.length_set, List.map_set, ← h5, List.take_set]
theorem RW.set_below {B : Nat} {w : World} {g c : Nat} {l : List El} (h : RW B w g c l) (j : Nat) (v : Value) : Below B w (w.setCell ⟨g, j, none⟩ v) := (Below.refl B w).setCell h.1 v
theorem ins_pos (x : Bs) : ∀ {out : List Bs}, Ris out → ∃ P, P ≤ out.length ∧ (∀ j (h : j < out.length), j < P → ¬ x < out[j]) ∧ ∀ j (h : j < out.length), P ≤ j → x < out[j]
  | [], _ => ⟨0, by simp, fun j h => by simp at h, fun j h => by simp at h⟩
  | a :: r, hr => by
    by_cases q : x < a
    · refine ⟨0, by simp, fun j _ h => by omega, fun j h _ => ?_⟩
      cases j with
      | zero => exact q
      | succ j => exact List.lt_trans q (hr.head _ (List.getElem_mem (by simpa using h)))
    · obtain ⟨P, h1, h2, h3⟩ := ins_pos x hr.tail
      refine ⟨P + 1, by simp; omega, fun j h hj => ?_, fun j h hj => ?_⟩
      · cases j with
        | zero => exact q
        | succ j => exact h2 j (by simpa using h) (by omega)
      · cases j with
        | zero => omega
        | succ j => exact h3 j (by simpa using h) (by omega)
theorem ins_S {t out : List Bs} {x : Bs} {P : Nat} (ho : S t = out) (hP : P ≤ out.length) (h2 : ∀ j (h : j < out.length), j < P → ¬ x < out[j]) (h3 : ∀ j (h : j < out.length), P ≤ j → x < out[j]) (hn : ∀ (h : P - 1 < out.length), 0 < P → out[P - 1] ≠ x) : S (t ++ [x]) = out.take P ++ x :: out.drop P := by
  have hr : Ris out := ho ▸ ris_S t
  refine S_is ?_ fun z => ?_
  · refine List.pairwise_append.2 ⟨hr.sub (List.take_sublist _ _), List.pairwise_cons.2 ⟨fun z hz => ?_, hr.sub (List.drop_sublist _ _)⟩, fun u hu v hv => ?_⟩
    · obtain ⟨j, hj, rfl⟩ := List.getElem_of_mem hz
      rw [List.length_drop] at hj
      rw [List.getElem_drop]
      exact h3 _ (by omega) (by omega)
    · obtain ⟨j, hj, rfl⟩ := List.getElem_of_mem hu
      rw [List.length_take] at hj
      rw [List.getElem_take]
      have hjx : out[j] < x := by
        have q1 : ¬ x < out[j] := h2 j (by omega) (by omega)
        have q2 : out[j] ≠ x := by
          rcases Nat.lt_or_ge j (P - 1) with q | q
          · have q3 : ¬ x < out[P - 1] := h2 (P - 1) (by omega) (by omega)
            have q4 := ris_at hr q (by omega)
            intro e
            rw [e] at q4
            exact q3 q4
          · have := hn (by omega) (by omega)
            have e : j = P - 1 := by omega
            subst e
            exact this
        rcases lt_tot out[j] x with q | q | q
        · exact q
        · exact absurd q q2
        · exact absurd q q1
      rcases List.mem_cons.1 hv with rfl | hv
      · exact hjx
      · obtain ⟨i, hi, rfl⟩ := List.getElem_of_mem hv
        rw [List.length_drop] at hi
        rw [List.getElem_drop]
        exact List.lt_trans hjx (h3 _ (by omega) (by omega))
  · rw [List.mem_append, List.mem_cons, List.mem_append, List.mem_singleton, ← mem_S (l := t), ho]
    constructor
    · rintro (h | h | h)
      · exact .inl (List.mem_of_mem_take h)
      · exact .inr h
      · exact .inl (List.mem_of_mem_drop h)
    · rintro (h | h)
      · rw [← List.take_append_drop P out, List.mem_append] at h
        rcases h with h | h
        · exact .inl h
        · exact .inr (.inr h)
      · exact .inr (.inl h)
theorem has_S {t out : List Bs} {x : Bs} (ho : S t = out) (h : x ∈ out) : S (t ++ [x]) = out := by
  rw [← ho]
  refine S_ext fun z => ?_
  rw [List.mem_append, List.mem_singleton]
  constructor
  · rintro (q | rfl)
    · exact q
    · rw [← mem_S, ho]; exact h
  · exact .inl
theorem shift_set {out : List Bs} {q : Bs} {k : Nat} (h : k < out.length) : (out.take (k + 1) ++ q :: out.drop (k + 1)).set (k + 1) out[k] = out.take k ++ out[k] :: out.drop k := by
  have hl : (out.take (k + 1)).length = k + 1 := by rw [List.length_take]; omega
  rw [List.set_append_right _ _ (by omega), hl, Nat.sub_self, List.set_cons_zero, List.take_succ_eq_append_getElem h, List.append_assoc, List.drop_eq_getElem_cons h]
  rfl
theorem last_set {out : List Bs} {q x : Bs} {k : Nat} (h : k ≤ out.length) : (out.take k ++ q :: out.drop k).set k x = out.take k ++ x :: out.drop k := by
  have hl : (out.take k).length = k := by rw [List.length_take]; omega
  rw [List.set_append_right _ _ (by omega), hl, Nat.sub_self, List.set_cons_zero]
theorem at_low {out : List Bs} {q : Bs} {k : Nat} (h : k < out.length) : (out.take (k + 1) ++ q :: out.drop (k + 1))[k]? = some out[k] := by
  have hl : (out.take (k + 1)).length = k + 1 := by rw [List.length_take]; omega
  rw [List.getElem?_append_left (by omega), List.getElem?_take, if_pos (by omega), List.getElem?_eq_getElem h]
theorem mid_len {out : List Bs} {q : Bs} {k : Nat} (h : k ≤ out.length) : (out.take k ++ q :: out.drop k).length = out.length + 1 := by
  simp; omega
set_option maxHeartbeats 8000000 in
set_option maxRecDepth 100000 in
theorem rof_call {G : Nat → Prop} {w : World} {v : Value} {l : List El} (h : SL G w v l) (hb : l.length * 16 ≤ 140737488355328) :
    Calls Tryz.prog 177 #[v] w fun e w' => ∃ r, e = .returned r ∧ NR w.heap.size w' r (S l) ∧ Below w.heap.size w w' := by
  obtain ⟨a, c, rfl, hc, hr⟩ := h
  have H1 : Hid (∀ W, Below w.heap.size w W → ∀ j x, l[j]? = some x → ∃ g o, a = some ⟨g, o, none⟩ ∧ W.cell? ⟨g, o + j, none⟩ = some (.string (mk x))) := hid_of fun W hW j x hj => by
    obtain ⟨g, o, e, hg, q⟩ := Rd.get hr.lt (by have := (List.getElem?_eq_some_iff.1 hj).1; omega)
    exact ⟨g, o, e, (World.cell?_of_block (w := w) (hW.block g hg.2)).trans (q j x hj)⟩
  obtain ⟨L, HL⟩ : ∃ L, Hid (L = l.length) := ⟨_, hid_of rfl⟩
  rw [← HL.out] at hb ⊢
  clear hr hc
  go_enter Tryz.func177, Tryz.ntmps177
  go_wp2_with fail
  go_loopg [3, 4] L (fun g s3 s4 wx => ∃ (i : Nat) (ra : Option Addr) (rn rc : Nat), i ≤ L ∧ L ≤ i + g ∧ rn ≤ i ∧ s3 = .slice ra rn rc ∧ s4 = .int .i64 (i : Int) ∧ Hid (rn = (S (l.take i)).length ∧ NR w.heap.size wx (.slice ra rn rc) (S (l.take i)) ∧ Below w.heap.size w wx))
  case atStart => exact ⟨0, none, 0, 0, by omega, by omega, by omega, rfl, rfl, by simp [S_nil], .inl ⟨rfl, by simp [S_nil]⟩, Below.refl _ _⟩
  case round =>
    obtain ⟨i, ra, rn, rc, hi, hg, hrn, rfl, rfl, R⟩ := hrel
    by_cases hlt : i < L
    · obtain ⟨gO, rfl⟩ : ∃ g', gk = g' + 1 := ⟨gk - 1, by omega⟩
      obtain ⟨W1, rfl⟩ : ∃ W1, W1 = wr := ⟨_, rfl⟩
      have hil : i < l.length := by rw [← HL.out]; exact hlt
      obtain ⟨x, hx⟩ : ∃ x, l[i]? = some x := ⟨_, List.getElem?_eq_getElem hil⟩
      have ht : l.take (i + 1) = l.take i ++ [x] := by
        rw [List.take_succ_eq_append_getElem hil]
        rw [List.getElem?_eq_getElem hil] at hx
        cases hx
        rfl
      obtain ⟨out, ho⟩ : ∃ out, S (l.take i) = out := ⟨_, rfl⟩
      rw [ho] at R
      obtain ⟨hn0, nr0, bl0⟩ := R.out
      obtain ⟨gl, ol, rfl, cx⟩ := H1.out _ bl0 i x hx
      have HX := hid_of hx
      have HT := hid_of ht
      have HO := hid_of ho
      have hris : Ris out := ho ▸ ris_S _
      obtain ⟨P, hP, hP1, hP2⟩ := ins_pos x hris
      rw [← hn0] at hP
      have HP1 := hid_of hP1
      have HP2 := hid_of hP2
      have HN := hid_of hn0
      have NR0 := hid_of nr0
      have BL0 := hid_of bl0
      clear R hn0 nr0 bl0 hx ht ho hP1 hP2 hris hil
      have w2 : IntKind.i64.wrap ((i : Int) + 1) = (i : Int) + 1 := IntWalk.i64_in _ (by omega)
      go_wp2_with fail
      go_loopg [5] rn (fun g s5 wx => ∃ k : Nat, P ≤ k ∧ k ≤ rn ∧ k ≤ g + P ∧ s5 = .int .i64 (k : Int) ∧ Hid (∃ m, wx = W1.drewN m))
      case atStart => exact ⟨rn, hP, by omega, by omega, rfl, 0, rfl⟩
      case round =>
        obtain ⟨k, hk1, hk2, hk3, rfl, R⟩ := hrel
        by_cases hPk : P < k
        · obtain ⟨g', rfl⟩ : ∃ g', gk = g' + 1 := ⟨gk - 1, by omega⟩
          obtain ⟨j, rfl⟩ : ∃ j, k = j + 1 := ⟨k - 1, by omega⟩
          have hjo : j < out.length := by rw [← HN.out]; omega
          obtain ⟨gr, cr, e0, rw0⟩ := NR.row NR0.out (by omega)
          rw [← HN.out] at e0
          cases e0
          have c1 : wr.cell? ⟨gr, j, none⟩ = some (.string (mk out[j])) := by obtain ⟨m, rfl⟩ := R.out; exact rw0.cell (List.getElem?_eq_getElem hjo)
          have c2 : wr.cell? ⟨gl, ol + i, none⟩ = some (.string (mk x)) := by obtain ⟨m, rfl⟩ := R.out; exact cx
          have hq : x < out[j] := HP2.out j hjo (by omega)
          have h1 := str_lt out[j] x
          have h2 := str_eq out[j] x
          rw [decide_eq_false (lt_not hq)] at h1
          rw [decide_eq_false (lt_ne hq).symm] at h2
          generalize out[j] = y at *
          generalize mk x = X at *
          generalize mk y = Y at *
          have w3 : IntKind.i64.wrap ((j : Int) + 1 - 1) = (j : Int) := by rw [show (j : Int) + 1 - 1 = (j : Int) by omega]; exact IntWalk.i64_in _ (by omega)
          have d1 : (0 : Int) < (j : Int) + 1 := by omega
          have d2 : j < rn := by omega
          clear hq rw0
          go_wp2_with fail
          go_quiet (fail)
          go_wp2_with fail
          go_roundg g'
          case measure => omega
          case rel => exact ⟨j, by omega, by omega, by omega, by simp, by obtain ⟨m, e⟩ := R.out; exact ⟨m + nq, by rw [e, World.drewN_drewN]⟩⟩
        · obtain rfl : k = P := by omega
          clear hPk hk1 hk2 hk3
          by_cases hP0 : k = 0
          · subst hP0
            have HNI : Hid (∀ (h : 0 - 1 < out.length), 0 < 0 → out[0 - 1] ≠ x) := hid_of fun _ h => by omega
            have CZ : Hid True := trivial
            go_wp2_with fail
            go_quiet (fail)
            obtain ⟨nq1, rfl⟩ : ∃ n, n = nq := ⟨_, rfl⟩
            go_wp2_with fail
            go_quiet (fail)
            have NB : NR w.heap.size (wr.drewN (nq1 + nq)) (.slice ra rn rc) out ∧ Below w.heap.size w (wr.drewN (nq1 + nq)) := by
              obtain ⟨m, e⟩ := R.out
              rw [e]
              exact ⟨(NR0.out.drewN m).drewN _, ⟨BL0.out.os, BL0.out.tape, BL0.out.output, BL0.out.size, BL0.out.block⟩⟩
            obtain ⟨v3, W3, hrun, n3, b3⟩ := app_one [] NB.1 (by rw [← HN.out]; omega) NB.2.size 22
            obtain ⟨g3, c3, rfl, rw3⟩ := NR.row n3 (by simp)
            have e3 : (out ++ [[]]).length = rn + 1 := by rw [List.length_append, ← HN.out]; rfl
            rw [e3] at hrun
            have B3 := hid_of (NB.2.trans b3)
            have K3 : Hid (RW w.heap.size W3 g3 c3 (out.take rn ++ [] :: out.drop rn)) := hid_of (by
              rw [List.take_of_length_le (by rw [← HN.out]; exact Nat.le_refl _), List.drop_eq_nil_of_le (by rw [← HN.out]; exact Nat.le_refl _)]
              exact rw3)
            have w4 : IntKind.i64.wrap ((rn : Int) + 1 - 1) = (rn : Int) := by rw [show (rn : Int) + 1 - 1 = (rn : Int) by omega]; exact IntWalk.i64_in _ (by omega)
            have hV : mk [] = (⟨#[]⟩ : ByteArray) := rfl
            simp only [V, hV] at hrun
            have hPn : 0 ≤ rn := hP
            clear NB n3 b3 rw3 e3 R NR0 BL0 hV hP
            go_wp2_with (at_builtin; refine wpl_eq rfl _ _ 22 22 rfl (.slice ra rn rc) (.slice (some ⟨wr.heap.size, 0, none⟩) 1 1) (.slice (some ⟨g3, 0, none⟩) (rn + 1) c3) _ W3 rfl rfl hrun ?_; clear hrun)
            go_loopg [6] rn (fun g s6 wx => ∃ (k : Nat) (q : El), 0 ≤ k ∧ k ≤ rn ∧ k ≤ g + 0 ∧ s6 = .int .i64 (k : Int) ∧ Hid (RW w.heap.size wx g3 c3 (out.take k ++ q :: out.drop k) ∧ Below w.heap.size w wx))
            case atStart => exact ⟨rn, [], hPn, by omega, by omega, rfl, K3.out, B3.out⟩
            case round =>
              clear K3 B3
              obtain ⟨k, q, hk1, hk2, hk3, rfl, R⟩ := hrel
              by_cases hPk : 0 < k
              · obtain ⟨g', rfl⟩ : ∃ g', gk = g' + 1 := ⟨gk - 1, by omega⟩
                obtain ⟨t, rfl⟩ : ∃ t, k = t + 1 := ⟨k - 1, by omega⟩
                have hto : t < out.length := by rw [← HN.out]; omega
                obtain ⟨r1, r2⟩ := R.out
                have u1 : wr.cell? ⟨g3, t, none⟩ = some (.string (mk out[t])) := r1.cell (at_low hto)
                have u2 : wr.frozen? ⟨g3, t + 1, none⟩ = false := r1.frozen (t + 1)
                obtain ⟨u4, hu4⟩ : ∃ u4, wr.cell? ⟨g3, t + 1, none⟩ = some u4 := ⟨_, r1.cell (List.getElem?_eq_getElem (by rw [mid_len (by omega)]; omega))⟩
                have K := hid_of (show RW w.heap.size (wr.setCell ⟨g3, t + 1, none⟩ (.string (mk out[t]))) g3 c3 (out.take t ++ out[t] :: out.drop t) ∧ Below w.heap.size w (wr.setCell ⟨g3, t + 1, none⟩ (.string (mk out[t]))) from ⟨by
                  have := r1.set (t + 1) out[t]
                  rwa [shift_set hto] at this, r2.trans (r1.set_below _ _)⟩)
                have w5 : IntKind.i64.wrap ((t : Int) + 1 - 1) = (t : Int) := by rw [show (t : Int) + 1 - 1 = (t : Int) by omega]; exact IntWalk.i64_in _ (by omega)
                have d5 : ((0 : Nat) : Int) < (t : Int) + 1 := by omega
                have d6 : t < rn + 1 := by omega
                have d7 : t + 1 < rn + 1 := by omega
                clear r1 r2 R
                generalize hyy : out[t] = yy at *
                generalize mk yy = YY at *
                go_wp2_with fail
                go_roundg g'
                case measure => omega
                case rel => exact ⟨t, yy, by omega, by omega, by omega, by simp, K⟩
              · obtain rfl : k = 0 := by omega
                obtain ⟨r1, r2⟩ := R.out
                obtain ⟨gl2, ol2, e2, c2⟩ := H1.out _ r2 i x HX.out
                cases e2
                have u2 : wr.frozen? ⟨g3, 0, none⟩ = false := r1.frozen 0
                obtain ⟨u4, hu4⟩ : ∃ u4, wr.cell? ⟨g3, 0, none⟩ = some u4 := ⟨_, r1.cell (List.getElem?_eq_getElem (by rw [mid_len (by rw [← HN.out]; omega)]; omega))⟩
                have K := hid_of (show rn + 1 = (S (l.take (i + 1))).length ∧ NR w.heap.size (wr.setCell ⟨g3, 0, none⟩ (.string (mk x))) (.slice (some ⟨g3, 0, none⟩) (rn + 1) c3) (S (l.take (i + 1))) ∧ Below w.heap.size w (wr.setCell ⟨g3, 0, none⟩ (.string (mk x))) from by
                  have e1 : S (l.take (i + 1)) = out.take (0) ++ x :: out.drop (0) := by
                    rw [HT.out]
                    exact ins_S HO.out (by rw [← HN.out]; omega) HP1.out HP2.out HNI.out
                  have e2 : (out.take (0) ++ x :: out.drop (0)).length = rn + 1 := by rw [mid_len (by rw [← HN.out]; omega), HN.out]
                  have q1 := r1.set (0) x
                  rw [last_set (by rw [← HN.out]; omega)] at q1
                  have q2 := q1.nr
                  rw [e2] at q2
                  rw [e1]
                  exact ⟨e2.symm, q2, r2.trans (r1.set_below _ _)⟩)
                have d5 : ¬ ((0 : Nat) : Int) < ((0 : Nat) : Int) := by omega
                have d6 : 0 < rn + 1 := by omega
                clear r1 r2 R hPk hk1 hk2 hk3
                generalize mk x = XX at *
                go_wp2_with fail
                go_roundg gO
                case measure => omega
                case rel => exact ⟨i + 1, some ⟨g3, 0, none⟩, rn + 1, c3, by omega, by omega, by omega, rfl, by simp, K⟩
          · obtain ⟨j, rfl⟩ : ∃ j, k = j + 1 := ⟨k - 1, by omega⟩
            have hjo : j < out.length := by rw [← HN.out]; omega
            obtain ⟨gr, cr, e0, rw0⟩ := NR.row NR0.out (by omega)
            rw [← HN.out] at e0
            cases e0
            have c1 : wr.cell? ⟨gr, j, none⟩ = some (.string (mk out[j])) := by obtain ⟨m, rfl⟩ := R.out; exact rw0.cell (List.getElem?_eq_getElem hjo)
            have c2 : wr.cell? ⟨gl, ol + i, none⟩ = some (.string (mk x)) := by obtain ⟨m, rfl⟩ := R.out; exact cx
            have hq : ¬ x < out[j] := HP1.out j hjo (by omega)
            have w3 : IntKind.i64.wrap ((j : Int) + 1 - 1) = (j : Int) := by rw [show (j : Int) + 1 - 1 = (j : Int) by omega]; exact IntWalk.i64_in _ (by omega)
            have d1 : (0 : Int) < (j : Int) + 1 := by omega
            have d2 : j < rn := by omega
            have h1 := str_lt out[j] x
            have h2 := str_eq out[j] x
            have HNI0 : Hid (out[j] ≠ x → ∀ (h : j + 1 - 1 < out.length), 0 < j + 1 → out[j + 1 - 1] ≠ x) := hid_of fun q _ _ => q
            have HIN : Hid (out[j] = x → x ∈ out) := hid_of fun q => by rw [← q]; exact List.getElem_mem hjo
            generalize out[j] = y at *
            clear rw0 hP0
            by_cases hyx : y = x
            · have HS : Hid (S (l.take (i + 1)) = out) := hid_of (by rw [HT.out]; exact has_S HO.out (HIN.out hyx))
              subst hyx
              rw [decide_eq_false (List.lt_irrefl y)] at h1
              rw [decide_eq_true rfl] at h2
              clear hq HIN HNI0
              generalize mk y = Y at *
              go_wp2_with fail
              go_quiet (fail)
              obtain ⟨nq1, rfl⟩ : ∃ n, n = nq := ⟨_, rfl⟩
              go_wp2_with fail
              go_quiet (fail)
              go_wp2_with fail
              go_roundg gO
              case measure => omega
              case rel => exact ⟨i + 1, some ⟨gr, 0, none⟩, rn, rc, by omega, by omega, by omega, rfl, by simp, by
                obtain ⟨m, e⟩ := R.out
                rw [HS.out, e]
                exact hid_of ⟨HN.out, (NR0.out.drewN m).drewN _, ⟨BL0.out.os, BL0.out.tape, BL0.out.output, BL0.out.size, BL0.out.block⟩⟩⟩
            · have hyl : y < x := by
                rcases lt_tot y x with q | q | q
                · exact q
                · exact absurd q hyx
                · exact absurd q hq
              rw [decide_eq_true hyl] at h1
              rw [decide_eq_false hyx] at h2
              have HNI := hid_of (HNI0.out hyx)
              clear hq HIN HNI0 hyx hyl
              obtain ⟨X, HXX⟩ : ∃ X, Hid (mk x = X) := ⟨_, hid_of rfl⟩
              rw [HXX.out] at h1 h2 c2
              generalize mk y = Y at *
              go_wp2_with fail
              go_quiet (fail)
              obtain ⟨nq1, rfl⟩ : ∃ n, n = nq := ⟨_, rfl⟩
              go_wp2_with fail
              go_quiet (fail)
              rw [← HXX.out] at c2
              have NB : NR w.heap.size (wr.drewN (nq1 + nq)) (.slice (some ⟨gr, 0, none⟩) rn rc) out ∧ Below w.heap.size w (wr.drewN (nq1 + nq)) := by
                obtain ⟨m, e⟩ := R.out
                rw [e]
                exact ⟨(NR0.out.drewN m).drewN _, ⟨BL0.out.os, BL0.out.tape, BL0.out.output, BL0.out.size, BL0.out.block⟩⟩
              obtain ⟨v3, W3, hrun, n3, b3⟩ := app_one [] NB.1 (by rw [← HN.out]; omega) NB.2.size 22
              obtain ⟨g3, c3, rfl, rw3⟩ := NR.row n3 (by simp)
              have e3 : (out ++ [[]]).length = rn + 1 := by rw [List.length_append, ← HN.out]; rfl
              rw [e3] at hrun
              have B3 := hid_of (NB.2.trans b3)
              have K3 : Hid (RW w.heap.size W3 g3 c3 (out.take rn ++ [] :: out.drop rn)) := hid_of (by
                rw [List.take_of_length_le (by rw [← HN.out]; exact Nat.le_refl _), List.drop_eq_nil_of_le (by rw [← HN.out]; exact Nat.le_refl _)]
                exact rw3)
              have w4 : IntKind.i64.wrap ((rn : Int) + 1 - 1) = (rn : Int) := by rw [show (rn : Int) + 1 - 1 = (rn : Int) by omega]; exact IntWalk.i64_in _ (by omega)
              have hV : mk [] = (⟨#[]⟩ : ByteArray) := rfl
              simp only [V, hV] at hrun
              have hPn : j + 1 ≤ rn := hP
              clear NB n3 b3 rw3 e3 R NR0 BL0 hV hP
              go_wp2_with (at_builtin; refine wpl_eq rfl _ _ 22 22 rfl (.slice (some ⟨gr, 0, none⟩) rn rc) (.slice (some ⟨wr.heap.size, 0, none⟩) 1 1) (.slice (some ⟨g3, 0, none⟩) (rn + 1) c3) _ W3 rfl rfl hrun ?_; clear hrun)
              go_loopg [6] rn (fun g s6 wx => ∃ (k : Nat) (q : El), j + 1 ≤ k ∧ k ≤ rn ∧ k ≤ g + j + 1 ∧ s6 = .int .i64 (k : Int) ∧ Hid (RW w.heap.size wx g3 c3 (out.take k ++ q :: out.drop k) ∧ Below w.heap.size w wx))
              case atStart => exact ⟨rn, [], hPn, by omega, by omega, rfl, K3.out, B3.out⟩
              case round =>
                clear K3 B3
                obtain ⟨k, q, hk1, hk2, hk3, rfl, R⟩ := hrel
                by_cases hPk : j + 1 < k
                · obtain ⟨g', rfl⟩ : ∃ g', gk = g' + 1 := ⟨gk - 1, by omega⟩
                  obtain ⟨t, rfl⟩ : ∃ t, k = t + 1 := ⟨k - 1, by omega⟩
                  have hto : t < out.length := by rw [← HN.out]; omega
                  obtain ⟨r1, r2⟩ := R.out
                  have u1 : wr.cell? ⟨g3, t, none⟩ = some (.string (mk out[t])) := r1.cell (at_low hto)
                  have u2 : wr.frozen? ⟨g3, t + 1, none⟩ = false := r1.frozen (t + 1)
                  obtain ⟨u4, hu4⟩ : ∃ u4, wr.cell? ⟨g3, t + 1, none⟩ = some u4 := ⟨_, r1.cell (List.getElem?_eq_getElem (by rw [mid_len (by omega)]; omega))⟩
                  have K := hid_of (show RW w.heap.size (wr.setCell ⟨g3, t + 1, none⟩ (.string (mk out[t]))) g3 c3 (out.take t ++ out[t] :: out.drop t) ∧ Below w.heap.size w (wr.setCell ⟨g3, t + 1, none⟩ (.string (mk out[t]))) from ⟨by
                    have := r1.set (t + 1) out[t]
                    rwa [shift_set hto] at this, r2.trans (r1.set_below _ _)⟩)
                  have w5 : IntKind.i64.wrap ((t : Int) + 1 - 1) = (t : Int) := by rw [show (t : Int) + 1 - 1 = (t : Int) by omega]; exact IntWalk.i64_in _ (by omega)
                  have d5 : ((j + 1 : Nat) : Int) < (t : Int) + 1 := by omega
                  have d6 : t < rn + 1 := by omega
                  have d7 : t + 1 < rn + 1 := by omega
                  clear r1 r2 R
                  generalize hyy : out[t] = yy at *
                  generalize mk yy = YY at *
                  go_wp2_with fail
                  go_roundg g'
                  case measure => omega
                  case rel => exact ⟨t, yy, by omega, by omega, by omega, by simp, K⟩
                · obtain rfl : k = j + 1 := by omega
                  obtain ⟨r1, r2⟩ := R.out
                  obtain ⟨gl2, ol2, e2, c2⟩ := H1.out _ r2 i x HX.out
                  cases e2
                  have u2 : wr.frozen? ⟨g3, j + 1, none⟩ = false := r1.frozen (j + 1)
                  obtain ⟨u4, hu4⟩ : ∃ u4, wr.cell? ⟨g3, j + 1, none⟩ = some u4 := ⟨_, r1.cell (List.getElem?_eq_getElem (by rw [mid_len (by rw [← HN.out]; omega)]; omega))⟩
                  have K := hid_of (show rn + 1 = (S (l.take (i + 1))).length ∧ NR w.heap.size (wr.setCell ⟨g3, j + 1, none⟩ (.string (mk x))) (.slice (some ⟨g3, 0, none⟩) (rn + 1) c3) (S (l.take (i + 1))) ∧ Below w.heap.size w (wr.setCell ⟨g3, j + 1, none⟩ (.string (mk x))) from by
                    have e1 : S (l.take (i + 1)) = out.take ((j + 1)) ++ x :: out.drop ((j + 1)) := by
                      rw [HT.out]
                      exact ins_S HO.out (by rw [← HN.out]; omega) HP1.out HP2.out HNI.out
                    have e2 : (out.take ((j + 1)) ++ x :: out.drop ((j + 1))).length = rn + 1 := by rw [mid_len (by rw [← HN.out]; omega), HN.out]
                    have q1 := r1.set ((j + 1)) x
                    rw [last_set (by rw [← HN.out]; omega)] at q1
                    have q2 := q1.nr
                    rw [e2] at q2
                    rw [e1]
                    exact ⟨e2.symm, q2, r2.trans (r1.set_below _ _)⟩)
                  have d5 : ¬ (((j + 1) : Nat) : Int) < (((j + 1) : Nat) : Int) := by omega
                  have d6 : (j + 1) < rn + 1 := by omega
                  clear r1 r2 R hPk hk1 hk2 hk3
                  generalize mk x = XX at *
                  go_wp2_with fail
                  go_roundg gO
                  case measure => omega
                  case rel => exact ⟨i + 1, some ⟨g3, 0, none⟩, rn + 1, c3, by omega, by omega, by omega, rfl, by simp, K⟩
    · have HE : Hid (S (l.take i) = S l) := hid_of (by rw [List.take_of_length_le (by have := HL.out; omega)])
      have R2 := hid_of R.out
      clear R
      go_wp2_with fail
      go_ret
      obtain ⟨r1, r2, r3⟩ := R2.out
      rw [HE.out] at r2
      exact ⟨_, rfl, r2, r3⟩
end Go.Proofs.YtpibeabokedpdaaGreatDoor.ROf
end
