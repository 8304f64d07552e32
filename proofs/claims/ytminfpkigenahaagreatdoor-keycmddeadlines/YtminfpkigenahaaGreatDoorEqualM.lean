/- slices.Equal over fields, entries and texts. Of: a copy, sorted, freed of what stands twice; Has. Values in memory; slices.Clone; the copy of a value. The document's Of: each element put where it belongs. Whether a text, a list, a set, a hash may be. -/
import Derived.Test.YtminfpkigenahaaGreatDoorFRowM
import Derived.Test.YtminfpkigenahaaGreatDoorShelfM
import Derived.Test.YtminfpkigenahaaGreatDoorBaseM
section
namespace Go.Proofs.YtminfpkigenahaaGreatDoor.Equal
open Go.RowKit Go.Maps
open Go.Proofs.YtminfpkigenahaaGreatDoor.SetMath
open Go.Proofs.YtminfpkigenahaaGreatDoor.Base
open Go.Proofs.YtminfpkigenahaaGreatDoor.Neq
set_option linter.unusedVariables false

end Go.Proofs.YtminfpkigenahaaGreatDoor.Equal
end
section
namespace Go.Proofs.YtminfpkigenahaaGreatDoor.Of
open Go.RowKit Go.Sort
open Go.Proofs.YtminfpkigenahaaGreatDoor.SetMath
open Go.Proofs.YtminfpkigenahaaGreatDoor.Base
set_option linter.unusedVariables false
set_option linter.unusedSimpArgs false
theorem clone_call {G : Nat → Prop} {w : World} {v : Value} {l : List El} (h : SL G w v l) (hb : l.length * 16 ≤ 140737488355328) :
    Calls Tryz.prog 21 #[v] w fun e w' => ∃ r, e = .returned r ∧ NR w.heap.size w' r l ∧ Below w.heap.size w w' := by
  obtain ⟨a, c, rfl, hc, hr⟩ := h
  cases a with
  | none =>
    have h0 : l = [] := by
      rcases hr with h | ⟨g, o, e, _⟩
      · exact h
      · cases e
    subst h0
    refine (Tryz.slices_Clone_string_nil 0 c w).mono ?_
    rintro e w' ⟨rfl, rfl⟩
    exact ⟨_, rfl, .inl ⟨rfl, rfl⟩, Below.refl _ _⟩
  | some a =>
    by_cases h0 : l = []
    · subst h0
      refine (Tryz.slices_Clone_string_zero a c w).mono ?_
      rintro e w' ⟨v', rfl, ho, _, hbl⟩
      exact ⟨v', rfl, NR.of_owns ho, hbl⟩
    · obtain ⟨g, o, e, _, hcell⟩ := Rd.get hr (List.length_pos_iff.2 h0)
      cases e
      refine (Tryz.slices_Clone_string g o l.length c (l.map mk) w (by simp) hb (fun j hj => ?_)).mono ?_
      · have hj' : j < l.length := by simpa using hj
        rw [hcell j l[j] (List.getElem?_eq_getElem hj')]
        simp [List.getD, hj']
      · rintro e w' ⟨v', rfl, ho, _, hbl⟩
        refine ⟨v', rfl, NR.of_owns ?_, hbl⟩
        rw [List.take_of_length_le (by simp), List.map_map] at ho
        exact ho
theorem sort_call {B : Nat} {w : World} {v : Value} {l : List El} (h : NR B w v l) (hb : l.length < 4611686018427387904) (hB : B ≤ w.heap.size) :
    Calls Tryz.prog 127 #[v] w fun e w' => e = .returned (.tuple #[]) ∧ NR B w' v (l.mergeSort leS) ∧ Below B w w' := by
  have hlen : (l.mergeSort leS).length = l.length := List.length_mergeSort l
  rcases h with ⟨rfl, rfl⟩ | ⟨g, c, cur, rfl, hBg, hr, hx, hl, ht⟩
  · refine (Tryz.slices_Sort_string_none none 0 w).mono ?_
    rintro e w' ⟨rfl, rfl⟩
    exact ⟨rfl, .inl ⟨rfl, by simp⟩, Below.refl _ _⟩
  · by_cases h0 : l = []
    · subst h0
      refine (Tryz.slices_Sort_string_none _ c w).mono ?_
      rintro e w' ⟨rfl, rfl⟩
      exact ⟨rfl, .inr ⟨g, c, cur, by simp, hBg, hr, hx, by simp, by simp⟩, Below.refl _ _⟩
    · have hH : Holds encStr w g 0 l.toArray := holds_of_block hr ht
      refine (Tryz.slices_Sort_string g 0 c l w hH (lt_of hr) hb).mono ?_
      rintro e w' ⟨rfl, n, os, rfl⟩
      refine ⟨rfl, .inr ⟨g, c, _, by rw [hlen], hBg, heap_sorted _ hr, by simp [putCells]; exact hx, by rw [hlen]; exact hl, take_putCells cur (l.mergeSort leS) (by rw [hlen]; omega)⟩, (Below.refl B w).grown (grownBy_sorted _) hB (fun j hj => by cases hj; exact hBg)⟩
theorem heap_put {w : World} {g n : Nat} {cur : Array Value} {e : TypeId} {fr : Nat × Nat} (d : Array (List UInt8)) (hb : w.heap[g]? = some (.cells cur e fr)) :
    (putRow encStr (Sort.ahead w n) g 0 d).heap[g]? = some (.cells (putCells encStr 0 d cur) e fr) := by
  simp [putRow, mapBlock, Sort.ahead, Array.getElem?_modify, hb, onCells]
theorem below_put {w : World} {B g n : Nat} (d : Array (List UInt8)) (hB : B ≤ g) : Below B w (putRow encStr (Sort.ahead w n) g 0 d) := by
  refine ⟨rfl, rfl, rfl, by simp [putRow, mapBlock, Sort.ahead], fun k hk => ?_⟩
  have : g ≠ k := by omega
  simp [putRow, mapBlock, Sort.ahead, Array.getElem?_modify, this]
theorem compact_call {B : Nat} {w : World} {v : Value} {l : List El} (h : NR B w v l) (hb : l.length < 4611686018427387904) (hB : B ≤ w.heap.size) :
    Calls Tryz.prog 247 #[v] w fun e w' => ∃ r, e = .returned r ∧ NR B w' r (Lib.compact l) ∧ Below B w w' := by
  have hle := comp_len l
  rcases h with ⟨rfl, rfl⟩ | ⟨g, c, cur, rfl, hBg, hr, hx, hl, ht⟩
  · refine (Tryz.slices_Compact_string_empty none 0 w).mono ?_
    rintro e w' ⟨rfl, rfl⟩
    exact ⟨_, rfl, .inl ⟨rfl, rfl⟩, Below.refl _ _⟩
  · by_cases h0 : l = []
    · subst h0
      refine (Tryz.slices_Compact_string_empty _ c w).mono ?_
      rintro e w' ⟨rfl, rfl⟩
      exact ⟨_, rfl, .inr ⟨g, c, cur, rfl, hBg, hr, hx, by simp [Lib.compact, Lib.compactUpTo], by simp [Lib.compact, Lib.compactUpTo]⟩, Below.refl _ _⟩
    · have hH : Holds encStr w g 0 l.toArray := holds_of_block hr ht
      refine (Tryz.slices_Compact_string g 0 c l w hH (by omega) hl).mono ?_
      rintro e w' ⟨rfl, q, rfl⟩
      refine ⟨_, rfl, .inr ⟨g, c, _, rfl, hBg, heap_put _ hr, by simp [putCells]; exact hx, by omega, ?_⟩, below_put _ hBg⟩
      have h1 := take_putCells cur (Lib.compact l ++ List.replicate (l.length - (Lib.compact l).length) []) (by simp; omega)
      have h2 := congrArg (List.take (Lib.compact l).length) h1
      rw [List.take_take, Nat.min_eq_left (by simp), List.map_append, List.take_left' (by simp)] at h2
      exact h2
set_option maxRecDepth 100000 in
theorem of_call {G : Nat → Prop} {w : World} {v : Value} {l : List El} (h : SL G w v l) (hb : l.length * 16 ≤ 140737488355328) :
    Calls Tryz.prog 243 #[v] w fun e w' => ∃ r, e = .returned r ∧ NR w.heap.size w' r (S l) ∧ Below w.heap.size w w' := by
  have HC := hid_of (clone_call h hb)
  obtain ⟨a, c, rfl, _, _⟩ := h
  go_enter Tryz.func243, Tryz.ntmps243
  go_wp2_with fail
  refine HC.out.mono ?_
  rintro e w1 ⟨r, rfl, n1, b1⟩
  have HS := hid_of (sort_call n1 (by omega) b1.size)
  obtain ⟨ra, rc, rfl, _⟩ := n1.shape
  have B1 := hid_of b1
  clear n1 b1
  go_wp2_with fail
  refine HS.out.mono ?_
  rintro e w2 ⟨rfl, n2, b2⟩
  have HK := hid_of (compact_call n2 (by rw [List.length_mergeSort]; omega) (Nat.le_trans B1.out.size b2.size))
  have B2 := hid_of (B1.out.trans b2)
  clear n2 b2
  go_wp2_with fail
  refine HK.out.mono ?_
  rintro e w3 ⟨r3, rfl, n3, b3⟩
  have N3 := hid_of (And.intro n3 (B2.out.trans b3))
  obtain ⟨ra3, rc3, rfl, _⟩ := n3.shape
  clear n3 b3
  go_wp2_with fail
  go_ret
  exact ⟨_, rfl, N3.out⟩
theorem contains_eq (l : List El) (m : Bs) : Lib.containsS ((l.map mk).take l.length) (mk m) = decide (m ∈ l) := by
  rw [Bool.eq_iff_iff, Lib.containsS_iff, decide_eq_true_eq, List.take_of_length_le (by simp), List.mem_map]
  constructor
  · rintro ⟨x, hx, e⟩
    rw [← mk_inj e]; exact hx
  · intro h
    exact ⟨m, h, rfl⟩
end Go.Proofs.YtminfpkigenahaaGreatDoor.Of
end
section
namespace Go.Proofs.YtminfpkigenahaaGreatDoor.Vals
open Go.RowKit Go.Maps
open Go.Proofs.YtminfpkigenahaaGreatDoor.SetMath
open Go.Proofs.YtminfpkigenahaaGreatDoor.ValueMath
open Go.Proofs.YtminfpkigenahaaGreatDoor.Base
set_option linter.unusedVariables false

theorem madeFRow (w : World) : FRow.Bd w (.slice (some ⟨w.heap.size, 0, none⟩) 0 0) [] (w.alloc (.cells #[] 66)) := ⟨World.ownsRow_made w #[] 0 (Nat.le_refl _) (Nat.zero_le _) (by simp), FRow.bnew w _⟩
theorem eqlnFRow (a : Addr) (n c : Nat) (w : World) : (binOp .eql 27 (.slice (some a) n c) (.slice none 0 0)).run Tryz.prog w = .ok (.bool false) w := Lib.run_eql_slice_nil w _ _ (some a) n c 0 0 Tryz.underlying27
set_option maxHeartbeats 1000000 in
set_option maxRecDepth 100000 in
theorem cloneFRow {w : World} {v : Value} {l : FRow.LL} (h : FRow.FS w v l) (hn : l.length ≤ FRow.big) : Calls Tryz.prog 22 #[v] w fun e w' => ∃ v', e = .returned v' ∧ FRow.OR w.heap.size w' v' l ∧ Below w.heap.size w w' := by
  have hF := h
  obtain ⟨a, c, rfl, hc, h⟩ := h
  cases a with
  | none =>
    have hl : l = [] := by rcases h with h | ⟨g, o, e, _⟩; exact h; cases e
    subst hl
    clear h hF
    show Calls Tryz.prog 22 #[.slice none 0 c] w _
    have hq : ∀ W, (binOp .eql 27 (.slice none 0 c) (.slice none 0 0)).run Tryz.prog W = .ok (.bool true) W := fun W => Lib.run_eql_slice_nil W _ _ none 0 c 0 0 Tryz.underlying27
    go_enter Tryz.func22, Tryz.ntmps22
    go_wp2
    go_ret
    exact ⟨_, rfl, FRow.or_nil _ _, Below.refl _ _⟩
  | some a =>
    have hq := eqlnFRow a l.length c
    obtain ⟨v', W', hr, hbd⟩ := FRow.bd_app (madeFRow w) (.slice (some a) l.length c) l (hF.below (FRow.bnew w _)) (by simpa using hn)
    have HB := hid_of hbd
    clear hbd hF h
    go_enter Tryz.func22, Tryz.ntmps22
    go_wp2_with (at_builtin; refine wpl_eq rfl _ _ 27 27 rfl (.slice (some ⟨w.heap.size, 0, none⟩) 0 0) (.slice (some a) l.length c) v' _ W' rfl rfl hr ?_)
    go_ret
    exact ⟨v', rfl, HB.out.row, HB.out.bel⟩
theorem shapeFRow {B : Nat} {w : World} {v : Value} {l : FRow.LL} (h : FRow.OR B w v l) : ∃ a c, v = .slice a l.length c := by
  obtain ⟨a, c, e, _⟩ := FRow.fs_row h
  exact ⟨a, c, e⟩

theorem madeERow (w : World) : ERow.Bd w (.slice (some ⟨w.heap.size, 0, none⟩) 0 0) [] (w.alloc (.cells #[] 69)) := ⟨World.ownsRow_made w #[] 0 (Nat.le_refl _) (Nat.zero_le _) (by simp), ERow.bnew w _⟩
theorem eqlnERow (a : Addr) (n c : Nat) (w : World) : (binOp .eql 28 (.slice (some a) n c) (.slice none 0 0)).run Tryz.prog w = .ok (.bool false) w := Lib.run_eql_slice_nil w _ _ (some a) n c 0 0 Tryz.underlying28
set_option maxHeartbeats 1000000 in
set_option maxRecDepth 100000 in
theorem cloneERow {w : World} {v : Value} {l : ERow.LL} (h : ERow.FS w v l) (hn : l.length ≤ ERow.big) : Calls Tryz.prog 23 #[v] w fun e w' => ∃ v', e = .returned v' ∧ ERow.OR w.heap.size w' v' l ∧ Below w.heap.size w w' := by
  have hF := h
  obtain ⟨a, c, rfl, hc, h⟩ := h
  cases a with
  | none =>
    have hl : l = [] := by rcases h with h | ⟨g, o, e, _⟩; exact h; cases e
    subst hl
    clear h hF
    show Calls Tryz.prog 23 #[.slice none 0 c] w _
    have hq : ∀ W, (binOp .eql 28 (.slice none 0 c) (.slice none 0 0)).run Tryz.prog W = .ok (.bool true) W := fun W => Lib.run_eql_slice_nil W _ _ none 0 c 0 0 Tryz.underlying28
    go_enter Tryz.func23, Tryz.ntmps23
    go_wp2
    go_ret
    exact ⟨_, rfl, ERow.or_nil _ _, Below.refl _ _⟩
  | some a =>
    have hq := eqlnERow a l.length c
    obtain ⟨v', W', hr, hbd⟩ := ERow.bd_app (madeERow w) (.slice (some a) l.length c) l (hF.below (ERow.bnew w _)) (by simpa using hn)
    have HB := hid_of hbd
    clear hbd hF h
    go_enter Tryz.func23, Tryz.ntmps23
    go_wp2_with (at_builtin; refine wpl_eq rfl _ _ 28 28 rfl (.slice (some ⟨w.heap.size, 0, none⟩) 0 0) (.slice (some a) l.length c) v' _ W' rfl rfl hr ?_)
    go_ret
    exact ⟨v', rfl, HB.out.row, HB.out.bel⟩
theorem shapeERow {B : Nat} {w : World} {v : Value} {l : ERow.LL} (h : ERow.OR B w v l) : ∃ a c, v = .slice a l.length c := by
  obtain ⟨a, c, e, _⟩ := ERow.fs_row h
  exact ⟨a, c, e⟩

abbrev TT : Nat → Prop := fun _ => True
theorem box5 {w : World} {b : Nat} {x0 x1 x2 x3 x4 : Value} {t : TypeId} (h : w.heap[b]? = some (.cells #[x0, x1, x2, x3, x4] t (0, 0))) :
    (w.cell? ⟨b, 0, none⟩ = some x0 ∧ w.cell? ⟨b, 1, none⟩ = some x1 ∧ w.cell? ⟨b, 2, none⟩ = some x2 ∧ w.cell? ⟨b, 3, none⟩ = some x3 ∧ w.cell? ⟨b, 4, none⟩ = some x4) ∧ ∀ i, w.frozen? ⟨b, i, none⟩ = false :=
  ⟨⟨Lib.cell_of_heap h 0, Lib.cell_of_heap h 1, Lib.cell_of_heap h 2, Lib.cell_of_heap h 3, Lib.cell_of_heap h 4⟩, fun i => Lib.frozen_of_heap h i⟩
theorem box3 {w : World} {b : Nat} {x0 x1 x2 : Value} {t : TypeId} (h : w.heap[b]? = some (.cells #[x0, x1, x2] t (0, 0))) :
    (w.cell? ⟨b, 0, none⟩ = some x0 ∧ w.cell? ⟨b, 1, none⟩ = some x1 ∧ w.cell? ⟨b, 2, none⟩ = some x2) ∧ ∀ i, w.frozen? ⟨b, i, none⟩ = false :=
  ⟨⟨Lib.cell_of_heap h 0, Lib.cell_of_heap h 1, Lib.cell_of_heap h 2⟩, fun i => Lib.frozen_of_heap h i⟩
theorem box2 {w : World} {b : Nat} {x0 x1 : Value} {t : TypeId} (h : w.heap[b]? = some (.cells #[x0, x1] t (0, 0))) :
    (w.cell? ⟨b, 0, none⟩ = some x0 ∧ w.cell? ⟨b, 1, none⟩ = some x1) ∧ ∀ i, w.frozen? ⟨b, i, none⟩ = false :=
  ⟨⟨Lib.cell_of_heap h 0, Lib.cell_of_heap h 1⟩, fun i => Lib.frozen_of_heap h i⟩
/- a value that is read -/
def VA (w : World) (v : Value) (x : Vl) : Prop := ∃ a b c, v = .agg #[.int .i64 x.kind, .string (mk x.text), a, b, c] ∧ SL TT w a x.list ∧ FRow.FS w b x.fields ∧ ERow.FS w c x.ranked
/- a value in new memory, from block B on -/
def VN (B : Nat) (w : World) (v : Value) (x : Vl) : Prop := ∃ a b c, v = .agg #[.int .i64 x.kind, .string (mk x.text), a, b, c] ∧ NR B w a x.list ∧ FRow.OR B w b x.fields ∧ ERow.OR B w c x.ranked
structure Fit (x : Vl) : Prop where
  l : x.list.length * 16 ≤ 140737488355328
  f : x.fields.length ≤ FRow.big
  r : x.ranked.length ≤ ERow.big
theorem nr_sl {B : Nat} {w : World} {v : Value} {l : List El} (h : NR B w v l) : SL TT w v l := h.sl.mono fun _ _ _ => trivial
theorem VN.va {B : Nat} {w : World} {v : Value} {x : Vl} (h : VN B w v x) : VA w v x := by
  obtain ⟨a, b, c, rfl, h1, h2, h3⟩ := h
  exact ⟨a, b, c, rfl, nr_sl h1, FRow.fs_row h2, ERow.fs_row h3⟩
theorem VA.below {w w' : World} {v : Value} {x : Vl} (h : VA w v x) (hb : Below w.heap.size w w') : VA w' v x := by
  obtain ⟨a, b, c, rfl, h1, h2, h3⟩ := h
  exact ⟨a, b, c, rfl, h1.below hb, h2.below hb, h3.below hb⟩
theorem VN.below {B : Nat} {w w' : World} {v : Value} {x : Vl} (h : VN B w v x) (hb : Below w.heap.size w w') : VN B w' v x := by
  obtain ⟨a, b, c, rfl, h1, h2, h3⟩ := h
  exact ⟨a, b, c, rfl, h1.below hb, FRow.row_below h2 hb, ERow.row_below h3 hb⟩
theorem VN.mono {B B' : Nat} {w : World} {v : Value} {x : Vl} (h : VN B w v x) (hB : B' ≤ B) : VN B' w v x := by
  obtain ⟨a, b, c, rfl, h1, h2, h3⟩ := h
  exact ⟨a, b, c, rfl, h1.mono hB, FRow.row_mono h2 hB, ERow.row_mono h3 hB⟩
theorem bset {B : Nat} {w w' : World} (h : Below B w w') {b i : Nat} (hb : B ≤ b) (v : Value) : Below B w (w'.setCell ⟨b, i, none⟩ v) := h.setCell hb v
theorem seton {w : World} {b i : Nat} {v : Value} {B : Nat} (hB : B ≤ b) : Below B w (w.setCell ⟨b, i, none⟩ v) := (Below.refl B w).setCell hB v
end Go.Proofs.YtminfpkigenahaaGreatDoor.Vals
end
section
namespace Go.Proofs.YtminfpkigenahaaGreatDoor.ROf
open Go.RowKit Go.Sort
open Go.Proofs.YtminfpkigenahaaGreatDoor.SetMath
open Go.Proofs.YtminfpkigenahaaGreatDoor.Base
open Go.Proofs.YtminfpkigenahaaGreatDoor.Small
set_option linter.unusedVariables false
set_option linter.unusedSimpArgs false
/-- a row that there is -/
def RW (B : Nat) (w : World) (g c : Nat) (l : List El) : Prop := B ≤ g ∧ ∃ cur, w.heap[g]? = some (.cells cur 9 (0, 0)) ∧ cur.size = c ∧ l.length ≤ c ∧ cur.toList.take l.length = l.map V
theorem NR.row {B : Nat} {w : World} {v : Value} {l : List El} (h : NR B w v l) (hl : 0 < l.length) : ∃ g c, v = .slice (some ⟨g, 0, none⟩) l.length c ∧ RW B w g c l := by
  rcases h with ⟨rfl, rfl⟩ | ⟨g, c, cur, rfl, r⟩
  · simp at hl
  · exact ⟨g, c, rfl, r.1, cur, r.2⟩
theorem RW.nr {B : Nat} {w : World} {g c : Nat} {l : List El} (h : RW B w g c l) : NR B w (.slice (some ⟨g, 0, none⟩) l.length c) l := by
  obtain ⟨h1, cur, h2⟩ := h
  exact .inr ⟨g, c, cur, rfl, h1, h2⟩
theorem RW.cell {B : Nat} {w : World} {g c : Nat} {l : List El} (h : RW B w g c l) {j : Nat} {x : El} (hj : l[j]? = some x) : w.cell? ⟨g, j, none⟩ = some (.string (mk x)) := by
  obtain ⟨h1, cur, h2, h3, h4, h5⟩ := h
  rw [Lib.cell_of_heap h2]
  exact row_at h5 hj
theorem RW.frozen {B : Nat} {w : World} {g c : Nat} {l : List El} (h : RW B w g c l) (j : Nat) : w.frozen? ⟨g, j, none⟩ = false := by
  obtain ⟨h1, cur, h2, _⟩ := h
  exact Lib.frozen_of_heap h2 j
theorem RW.drewN {B : Nat} {w : World} {g c : Nat} {l : List El} (h : RW B w g c l) (n : Nat) : RW B (w.drewN n) g c l := h
theorem RW.len {B : Nat} {w : World} {g c : Nat} {l : List El} (h : RW B w g c l) : l.length ≤ c := by
  obtain ⟨h1, cur, h2, h3, h4, h5⟩ := h
  exact h4
theorem RW.set {B : Nat} {w : World} {g c : Nat} {l : List El} (h : RW B w g c l) (j : Nat) (y : El) : RW B (w.setCell ⟨g, j, none⟩ (.string (mk y))) g c (l.set j y) := by
  obtain ⟨h1, cur, h2, h3, h4, h5⟩ := h
  refine ⟨h1, _, set_at h2 _, by simpa using h3, by simpa using h4, ?_⟩
  rw [Array.toList_setIfInBounds, List.length_set, List.map_set, ← h5, List.take_set]
theorem RW.set_below {B : Nat} {w : World} {g c : Nat} {l : List El} (h : RW B w g c l) (j : Nat) (v : Value) : Below B w (w.setCell ⟨g, j, none⟩ v) := (Below.refl B w).setCell h.1 v
theorem ins_pos (x : Bs) : ∀ {out : List Bs}, Ris out → ∃ P, P ≤ out.length ∧ (∀ j (h : j < out.length), j < P → ¬ x < out[j]) ∧ ∀ j (h : j < out.length), P ≤ j → x < out[j]
  | [], _ => ⟨0, by simp, fun j h => by simp at h, fun j h => by simp at h⟩
  | a :: r, hr => by
    by_cases q : x < a
    · refine ⟨0, by simp, fun j _ h => by omega, fun j h _ => ?_⟩
      cases j with
      | zero => exact q
      | succ j => exact List.lt_trans q (hr.head _ (List.getElem_mem (by simpa using h)))
    · obtain ⟨P, h1, h2, h3⟩ := ins_pos x hr.tail
      refine ⟨P + 1, by simp; omega, fun j h hj => ?_, fun j h hj => ?_⟩
      · cases j with
        | zero => exact q
        | succ j => exact h2 j (by simpa using h) (by omega)
      · cases j with
        | zero => omega
        | succ j => exact h3 j (by simpa using h) (by omega)
theorem ins_S {t out : List Bs} {x : Bs} {P : Nat} (ho : S t = out) (hP : P ≤ out.length) (h2 : ∀ j (h : j < out.length), j < P → ¬ x < out[j]) (h3 : ∀ j (h : j < out.length), P ≤ j → x < out[j]) (hn : ∀ (h : P - 1 < out.length), 0 < P → out[P - 1] ≠ x) : S (t ++ [x]) = out.take P ++ x :: out.drop P := by
  have hr : Ris out := ho ▸ ris_S t
  refine S_is ?_ fun z => ?_
  · refine List.pairwise_append.2 ⟨hr.sub (List.take_sublist _ _), List.pairwise_cons.2 ⟨fun z hz => ?_, hr.sub (List.drop_sublist _ _)⟩, fun u hu v hv => ?_⟩
    · obtain ⟨j, hj, rfl⟩ := List.getElem_of_mem hz
      rw [List.length_drop] at hj
      rw [List.getElem_drop]
      exact h3 _ (by omega) (by omega)
    · obtain ⟨j, hj, rfl⟩ := List.getElem_of_mem hu
      rw [List.length_take] at hj
      rw [List.getElem_take]
      have hjx : out[j] < x := by
        have q1 : ¬ x < out[j] := h2 j (by omega) (by omega)
        have q2 : out[j] ≠ x := by
          rcases Nat.lt_or_ge j (P - 1) with q | q
          · have q3 : ¬ x < out[P - 1] := h2 (P - 1) (by omega) (by omega)
            have q4 := ris_at hr q (by omega)
            intro e
            rw [e] at q4
            exact q3 q4
          · have := hn (by omega) (by omega)
            have e : j = P - 1 := by omega
            subst e
            exact this
        rcases lt_tot out[j] x with q | q | q
        · exact q
        · exact absurd q q2
        · exact absurd q q1
      rcases List.mem_cons.1 hv with rfl | hv
      · exact hjx
      · obtain ⟨i, hi, rfl⟩ := List.getElem_of_mem hv
        rw [List.length_drop] at hi
        rw [List.getElem_drop]
        exact List.lt_trans hjx (h3 _ (by omega) (by omega))
  · rw [List.mem_append, List.mem_cons, List.mem_append, List.mem_singleton, ← mem_S (l := t), ho]
    constructor
    · rintro (h | h | h)
      · exact .inl (List.mem_of_mem_take h)
      · exact .inr h
      · exact .inl (List.mem_of_mem_drop h)
    · rintro (h | h)
      · rw [← List.take_append_drop P out, List.mem_append] at h
        rcases h with h | h
        · exact .inl h
        · exact .inr (.inr h)
      · exact .inr (.inl h)
theorem has_S {t out : List Bs} {x : Bs} (ho : S t = out) (h : x ∈ out) : S (t ++ [x]) = out := by
  rw [← ho]
  refine S_ext fun z => ?_
  rw [List.mem_append, List.mem_singleton]
  constructor
  · rintro (q | rfl)
    · exact q
    · rw [← mem_S, ho]; exact h
  · exact .inl
theorem shift_set {out : List Bs} {q : Bs} {k : Nat} (h : k < out.length) : (out.take (k + 1) ++ q :: out.drop (k + 1)).set (k + 1) out[k] = out.take k ++ out[k] :: out.drop k := by
  have hl : (out.take (k + 1)).length = k + 1 := by rw [List.length_take]; omega
  rw [List.set_append_right _ _ (by omega), hl, Nat.sub_self, List.set_cons_zero, List.take_succ_eq_append_getElem h, List.append_assoc, List.drop_eq_getElem_cons h]
  rfl
theorem last_set {out : List Bs} {q x : Bs} {k : Nat} (h : k ≤ out.length) : (out.take k ++ q :: out.drop k).set k x = out.take k ++ x :: out.drop k := by
  have hl : (out.take k).length = k := by rw [List.length_take]; omega
  rw [List.set_append_right _ _ (by omega), hl, Nat.sub_self, List.set_cons_zero]
theorem at_low {out : List Bs} {q : Bs} {k : Nat} (h : k < out.length) : (out.take (k + 1) ++ q :: out.drop (k + 1))[k]? = some out[k] := by
  have hl : (out.take (k + 1)).length = k + 1 := by rw [List.length_take]; omega
  rw [List.getElem?_append_left (by omega), List.getElem?_take, if_pos (by omega), List.getElem?_eq_getElem h]
theorem mid_len {out : List Bs} {q : Bs} {k : Nat} (h : k ≤ out.length) : (out.take k ++ q :: out.drop k).length = out.length + 1 := by
  simp; omega
end Go.Proofs.YtminfpkigenahaaGreatDoor.ROf
end
section
namespace Go.Proofs.YtminfpkigenahaaGreatDoor.May
open Go.RowKit Go.Maps
open Go.Proofs.YtminfpkigenahaaGreatDoor.SetMath
open Go.Proofs.YtminfpkigenahaaGreatDoor.ValueMath
open Go.Proofs.YtminfpkigenahaaGreatDoor.Base
open Go.Proofs.YtminfpkigenahaaGreatDoor.Vals
open Go.Proofs.YtminfpkigenahaaGreatDoor.ROf (RW)
set_option linter.unusedVariables false

set_option maxRecDepth 100000 in
theorem text_call (t : Bs) (w : World) (hl : t.length ≤ 140737488355328) : Calls Tryz.prog 222 #[.string (mk t)] w fun e w' => e = .returned (.bool (tOk t)) ∧ w' = w := by
  have hs := mk_size t
  unfold tOk
  rw [← hs] at hl ⊢
  generalize mk t = X at *
  clear hs
  by_cases h : X.size ≤ 1048576
  · go_enter Tryz.func222, Tryz.ntmps222
    go_wp2
    go_ret
    exact ⟨ret_b (by simp; omega), rfl⟩
  · go_enter Tryz.func222, Tryz.ntmps222
    go_wp2
    go_ret
    exact ⟨ret_b (by simp; omega), rfl⟩
theorem all_take {α : Type} {p : α → Bool} {l : List α} {k : Nat} (hk : k < l.length) (h : (l.take k).all p = true) (hp : p l[k] = true) : (l.take (k + 1)).all p = true := by
  rw [List.take_succ_eq_append_getElem hk, List.all_append, h]
  simp [hp]
theorem all_no {α : Type} {p : α → Bool} {l : List α} {k : Nat} (hk : k < l.length) (hp : p l[k] = false) : l.all p = false := by
  cases e : l.all p
  · rfl
  · rw [List.all_eq_true.1 e _ (List.getElem_mem hk)] at hp
    cases hp
def Sml (l : List Bs) : Prop := ∀ x ∈ l, x.length ≤ 140737488355328
set_option maxHeartbeats 1000000 in
set_option maxRecDepth 100000 in
theorem list_call {G : Nat → Prop} {w : World} {v : Value} {l : List El} (h : SL G w v l) (hb : l.length ≤ 140737488355328) (hs : Sml l) :
    Calls Tryz.prog 228 #[v] w fun e w' => e = .returned (.bool (lOk l)) ∧ w' = w := by
  obtain ⟨a, c, rfl, hc, hr⟩ := h
  have H1 := hid_of hr
  have HS := hid_of hs
  obtain ⟨L, HL⟩ : ∃ L, Hid (L = l.length) := ⟨_, hid_of rfl⟩
  rw [← HL.out] at hb ⊢
  clear hr hc hs
  go_enter Tryz.func228, Tryz.ntmps228
  go_wp2_with fail
  go_loopg [7] L (fun g s3 wx => ∃ j : Nat, j ≤ L ∧ L ≤ j + g ∧ s3 = .int .i64 (j : Int) ∧ Hid ((l.take j).all tOk = true) ∧ wx = w)
  case atStart => exact ⟨0, by omega, by omega, rfl, hid_of rfl, rfl⟩
  case round =>
    obtain ⟨j, hj, hg, rfl, HA, hwx⟩ := hrel
    subst hwx
    by_cases hlt : j < L
    · obtain ⟨g', rfl⟩ : ∃ g', gk = g' + 1 := ⟨gk - 1, by omega⟩
      have hjl : j < l.length := by rw [← HL.out]; exact hlt
      obtain ⟨g1, o1, rfl, _, q1⟩ := Rd.get H1.out (by omega)
      have c1 : wr.cell? ⟨g1, o1 + j, none⟩ = some (.string (mk l[j])) := q1 j _ (List.getElem?_eq_getElem hjl)
      have HN := hid_of (fun q => all_take (p := tOk) hjl HA.out q)
      have HF := hid_of (fun q => all_no (p := tOk) hjl q)
      have HC := hid_of (text_call l[j] wr (HS.out _ (List.getElem_mem hjl)))
      generalize l[j] = x at *
      have w1 : IntKind.i64.wrap ((j : Int) + 1) = (j : Int) + 1 := IntWalk.i64_in _ (by omega)
      have d1 : (j : Int) < (L : Int) := by omega
      clear q1
      generalize mk x = X at *
      generalize tOk x = b at *
      go_wp2_with fail
      refine HC.out.mono ?_
      rintro e w2 ⟨rfl, hw2⟩
      rw [hw2]
      clear hw2 HC
      cases b
      · have HZ := hid_of (HF.out rfl)
        clear HF HN
        go_wp2_with fail
        go_ret
        exact ⟨ret_b (by unfold lOk; rw [HZ.out]; rfl), rfl⟩
      · have HZ := hid_of (HN.out rfl)
        clear HF HN
        go_wp2_with fail
        go_roundg g'
        case measure => omega
        case rel => exact ⟨j + 1, by omega, by omega, by simp, HZ, rfl⟩
    · have d1 : ¬ (j : Int) < (L : Int) := by omega
      have HT : Hid (lOk l = decide (0 < L)) := hid_of (by
        have := HA.out
        rw [List.take_of_length_le (by have := HL.out; omega)] at this
        unfold lOk
        rw [this, HL.out, Bool.true_and])
      go_wp2_with fail
      go_ret
      exact ⟨ret_b (by rw [HT.out]), rfl⟩
set_option maxRecDepth 100000 in
theorem set_call {G : Nat → Prop} {w : World} {v : Value} {l : List El} (h : SL G w v l) (hb : l.length ≤ 140737488355328) (hs : Sml l) :
    Calls Tryz.prog 234 #[v] w fun e w' => e = .returned (.bool (setOk l)) ∧ Below w.heap.size w w' := by
  have HC := hid_of (list_call h hb hs)
  have HV := hid_of (Small.valid_call h hb)
  unfold setOk
  obtain ⟨a, c, rfl, _, _⟩ := h
  generalize lOk l = b at *
  generalize decide (Ris l) = d at *
  go_enter Tryz.func234, Tryz.ntmps234
  go_wp2_with fail
  refine HC.out.mono ?_
  rintro e w1 ⟨rfl, hw1⟩
  rw [hw1]
  clear hw1
  cases b
  · go_wp2_with fail
    go_ret
    exact ⟨rfl, Below.refl _ _⟩
  · go_wp2_with fail
    refine HV.out.mono ?_
    rintro e w2 ⟨rfl, m, hm⟩
    rw [hm]
    clear hm
    go_wp2_with fail
    go_ret
    exact ⟨rfl, bel_drewN _ _⟩
/- the names of the first k, then nothing -/
def pnm {α : Type} (f : α → Bs) (l : List α) (k : Nat) : List Bs := (l.take k).map f ++ List.replicate (l.length - k) []
theorem pnm_len {α : Type} (f : α → Bs) (l : List α) (k : Nat) (h : k ≤ l.length) : (pnm f l k).length = l.length := by simp [pnm]; omega
theorem pnm_set {α : Type} (f : α → Bs) (l : List α) (k : Nat) (h : k < l.length) : (pnm f l k).set k (f l[k]) = pnm f l (k + 1) := by
  unfold pnm
  rw [List.set_append_right _ _ (by simp; omega)]
  have e : k - ((l.take k).map f).length = 0 := by simp; omega
  rw [e, show l.length - k = (l.length - (k + 1)) + 1 by omega, List.replicate_succ, List.set_cons_zero, List.take_succ_eq_append_getElem h, List.map_append, List.append_assoc]
  rfl
theorem pnm_zero {α : Type} (f : α → Bs) (l : List α) : pnm f l 0 = List.replicate l.length [] := by simp [pnm]
theorem pnm_all {α : Type} (f : α → Bs) (l : List α) : pnm f l l.length = l.map f := by simp [pnm]
theorem made_rw {w w0 : World} {n : Nat} (h : w0.ownsRow w.heap.size 9 1 (.slice (some ⟨w.heap.size, 0, none⟩) n n) n (madeCells #[.string ⟨#[]⟩] n).toList) : RW w.heap.size w0 w.heap.size n (List.replicate n []) := by
  rw [toList_madeCells_one] at h
  rcases h.2 with ⟨e, _⟩ | ⟨g, c, cur, e, hb, hr, h1, h2, h3, h4⟩
  · cases e
  · injection e with e1 e2 e3
    injection e1 with e1
    injection e1 with e1
    subst e1
    subst e3
    refine ⟨Nat.le_refl _, cur, hr, by simpa using h3, by simp, ?_⟩
    rw [List.length_replicate]
    rw [Nat.mul_one] at h4
    rw [h4]
    simp [V, mk]
theorem info9' : (Tryz.prog.info? 9).map (fun i => (i.zero, i.size, i.bytes)) = some (some (.string ⟨#[]⟩), 1, 16) := by kernel_rfl
theorem rw_below {B : Nat} {w w' : World} {g c : Nat} {l : List El} (h : RW B w g c l) (hb : Below w.heap.size w w') : RW B w' g c l := by
  obtain ⟨h1, cur, h2, h3⟩ := h
  exact ⟨h1, cur, (hb.block g (lt_of h2)).trans h2, h3⟩
structure Fok (l : FL) : Prop where
  n : ∀ p ∈ l, p.1.length ≤ 140737488355328
  v : ∀ p ∈ l, p.2.length ≤ 140737488355328
set_option maxHeartbeats 4000000 in
set_option maxRecDepth 100000 in
theorem hash_call {w : World} {v : Value} {l : FL} (h : FRow.FS w v l) (hb : l.length ≤ FRow.big) (hs : Fok l) :
    Calls Tryz.prog 231 #[v] w fun e w' => e = .returned (.bool (hashOk l)) ∧ Below w.heap.size w w' := by
  obtain ⟨i0, hi, hz0, hz1, hz2⟩ := info_parts info9'
  have HF := hid_of h
  have HS := hid_of hs
  obtain ⟨a, c, rfl, hc, hr⟩ := h
  obtain ⟨L, HL⟩ : ∃ L, Hid (L = List.length l) := ⟨_, hid_of rfl⟩
  unfold FRow.big at hb
  rw [← HL.out] at hb hc HF ⊢
  clear hr hs hc
  go_enter Tryz.func231, Tryz.ntmps231
  go_wp2_with (at_make; refine wpList_make_full _ rfl _ _ 26 rfl w.heap.size 9 i0 (.string ⟨#[]⟩) 1 Tryz.underlying26 hi hz0 hz1 _ _ _ _ L rfl rfl rfl rfl ?b2 ?b3 (Nat.le_refl _) ?_)
  case b2 => rw [hz2]; omega
  case b3 => unfold maxLen; omega
  intro w0 hown0 hgrow0
  have R0 : Hid (RW w.heap.size w0 w.heap.size L (pnm (·.1) l 0) ∧ Below w.heap.size w w0) := hid_of ⟨by rw [pnm_zero, ← HL.out]; exact made_rw hown0, (Below.refl _ _).grown hgrow0 (Nat.le_refl _) (fun k h => by cases h)⟩
  clear hown0 hgrow0
  go_wp2_with fail
  go_loopg [11] L (fun g s3 wx => ∃ j : Nat, j ≤ L ∧ L ≤ j + g ∧ s3 = .int .i64 (j : Int) ∧ Hid ((l.take j).all (fun p => tOk p.2) = true) ∧ Hid (RW w.heap.size wx w.heap.size L (pnm (·.1) l j) ∧ Below w.heap.size w wx))
  case atStart => exact ⟨0, by omega, by omega, rfl, hid_of rfl, R0⟩
  case round =>
    obtain ⟨j, hj, hg, rfl, HA, R⟩ := hrel
    by_cases hlt : j < L
    · obtain ⟨g', rfl⟩ : ∃ g', gk = g' + 1 := ⟨gk - 1, by omega⟩
      have hjl : j < List.length l := by rw [← HL.out]; exact hlt
      obtain ⟨ga, oa, rfl, ha⟩ := FRow.FS.at (HF.out.below R.out.2) hjl
      obtain ⟨a0, a1⟩ := ha j hjl
      clear ha
      have HN := hid_of (fun q => all_take (p := fun p : Bs × Bs => tOk p.2) hjl HA.out q)
      have HX := hid_of (fun q => all_no (p := fun p : Bs × Bs => tOk p.2) hjl q)
      have HC := hid_of (fun W => text_call l[j].2 W (HS.out.v _ (List.getElem_mem hjl)))
      have rb := R.out.1.set j l[j].1
      rw [pnm_set (·.1) l j hjl] at rb
      have rs := rw_below rb (FRow.bnew _ (.cells #[.string (mk l[j].1), .string (mk l[j].2)] 66))
      have hw2 : Below w.heap.size w ((wr.setCell ⟨w.heap.size, j, none⟩ (.string (mk l[j].1))).alloc (.cells #[.string (mk l[j].1), .string (mk l[j].2)] 66)) := (bset R.out.2 (Nat.le_refl _) _).alloc (by rw [size_set]; exact R.out.2.size) _
      have hfz := R.out.1.frozen j
      obtain ⟨y, hy⟩ : ∃ y, (pnm (·.1) l j)[j]? = some y := ⟨_, List.getElem?_eq_getElem (by rw [pnm_len _ _ _ (by omega)]; exact hjl)⟩
      have hcl := R.out.1.cell hy
      have RS := hid_of (And.intro rs hw2)
      have hlt2 : w.heap.size < wr.heap.size := by
        obtain ⟨_, cur, h2, _⟩ := R.out.1
        exact lt_of h2
      clear rb rs hw2 hy
      generalize l[j] = x at *
      obtain ⟨x1, x2⟩ := x
      simp only at a0 a1 HN HX HC RS
      have w1 : IntKind.i64.wrap ((j : Int) + 1) = (j : Int) + 1 := IntWalk.i64_in _ (by omega)
      have d1 : (j : Int) < (L : Int) := by omega
      generalize mk x1 = X1 at *
      generalize mk x2 = X2 at *
      generalize mk y = Y at *
      generalize tOk x2 = b at *
      go_wp2_with fail
      refine (HC.out _).mono ?_
      rintro e w2 ⟨rfl, hw2⟩
      rw [hw2]
      clear hw2 HC
      cases b
      · have HZ := hid_of (HX.out rfl)
        clear HX HN
        go_wp2_with fail
        go_ret
        exact ⟨ret_b (by unfold hashOk; rw [HZ.out]; rfl), R.out.2.alloc R.out.2.size _⟩
      · have HZ := hid_of (HN.out rfl)
        clear HX HN
        go_wp2_with fail
        go_roundg g'
        case measure => omega
        case rel => exact ⟨j + 1, by omega, by omega, by simp, HZ, RS⟩
    · obtain rfl : j = L := by omega
      have d1 : ¬ (j : Int) < (j : Int) := by omega
      have rl : RW w.heap.size wr w.heap.size j (fnames l) := by
        have := R.out.1
        rw [HL.out, pnm_all, ← HL.out] at this
        exact this
      have hfl : (fnames l).length = j := by rw [HL.out]; exact List.length_map _
      have nl := rl.nr
      rw [hfl] at nl
      have HC := hid_of (set_call nl.sl (by rw [hfl]; omega) (fun x hx => by obtain ⟨p, hp, rfl⟩ := List.mem_map.1 hx; exact HS.out.n p hp))
      have HT : Hid (hashOk l = setOk (fnames l)) := hid_of (by
        have := HA.out
        rw [List.take_of_length_le (by have := HL.out; omega)] at this
        unfold hashOk
        rw [this]; rfl)
      clear rl nl hfl HA
      generalize setOk (fnames l) = b at *
      go_wp2_with fail
      refine HC.out.mono ?_
      rintro e w2 ⟨rfl, b2⟩
      have B2 := hid_of (FRow.bel R.out.2 b2 (Nat.le_refl _))
      clear b2
      go_wp2_with fail
      go_ret
      exact ⟨ret_b HT.out.symm, B2.out⟩
end Go.Proofs.YtminfpkigenahaaGreatDoor.May
end
