/- Values in memory; slices.Clone; the copy of a value. -/
import Derived.Test.YtdcnkdkhanmklabEqual
import Derived.Test.YtdcnkdkhanmklabOf
namespace Go.Proofs.Ytdcnkdkhanmklab.Vals
open Go.RowKit Go.Maps
open Go.Proofs.Ytdcnkdkhanmklab.SetMath
open Go.Proofs.Ytdcnkdkhanmklab.ValueMath
open Go.Proofs.Ytdcnkdkhanmklab.Base
set_option linter.unusedVariables false

theorem madeFRow (w : World) : FRow.Bd w (.slice (some ⟨w.heap.size, 0, none⟩) 0 0) [] (w.alloc (.cells #[] 38)) := ⟨World.ownsRow_made w #[] 0 (Nat.le_refl _) (Nat.zero_le _) (by simp), FRow.bnew w _⟩
theorem eqlnFRow (a : Addr) (n c : Nat) (w : World) : (binOp .eql 23 (.slice (some a) n c) (.slice none 0 0)).run Try.prog w = .ok (.bool false) w := Lib.run_eql_slice_nil w _ _ (some a) n c 0 0 Try.underlying23
set_option maxHeartbeats 1000000 in
set_option maxRecDepth 100000 in
theorem cloneFRow {w : World} {v : Value} {l : FRow.LL} (h : FRow.FS w v l) (hn : l.length ≤ FRow.big) : Calls Try.prog 14 #[v] w fun e w' => ∃ v', e = .returned v' ∧ FRow.OR w.heap.size w' v' l ∧ Below w.heap.size w w' := by
  have hF := h
  obtain ⟨a, c, rfl, hc, h⟩ := h
  cases a with
  | none =>
    have hl : l = [] := by rcases h with h | ⟨g, o, e, _⟩; exact h; cases e
    subst hl
    clear h hF
    show Calls Try.prog 14 #[.slice none 0 c] w _
    have hq : ∀ W, (binOp .eql 23 (.slice none 0 c) (.slice none 0 0)).run Try.prog W = .ok (.bool true) W := fun W => Lib.run_eql_slice_nil W _ _ none 0 c 0 0 Try.underlying23
    go_enter Try.func14, Try.ntmps14
    go_wp2
    go_ret
    exact ⟨_, rfl, FRow.or_nil _ _, Below.refl _ _⟩
  | some a =>
    have hq := eqlnFRow a l.length c
    obtain ⟨v', W', hr, hbd⟩ := FRow.bd_app (madeFRow w) (.slice (some a) l.length c) l (hF.below (FRow.bnew w _)) (by simpa using hn)
    have HB := hid_of hbd
    clear hbd hF h
    go_enter Try.func14, Try.ntmps14
    go_wp2_with (at_builtin; refine wpl_eq rfl _ _ 23 23 rfl (.slice (some ⟨w.heap.size, 0, none⟩) 0 0) (.slice (some a) l.length c) v' _ W' rfl rfl hr ?_)
    go_ret
    exact ⟨v', rfl, HB.out.row, HB.out.bel⟩
theorem shapeFRow {B : Nat} {w : World} {v : Value} {l : FRow.LL} (h : FRow.OR B w v l) : ∃ a c, v = .slice a l.length c := by
  obtain ⟨a, c, e, _⟩ := FRow.fs_row h
  exact ⟨a, c, e⟩

theorem madeERow (w : World) : ERow.Bd w (.slice (some ⟨w.heap.size, 0, none⟩) 0 0) [] (w.alloc (.cells #[] 40)) := ⟨World.ownsRow_made w #[] 0 (Nat.le_refl _) (Nat.zero_le _) (by simp), ERow.bnew w _⟩
theorem eqlnERow (a : Addr) (n c : Nat) (w : World) : (binOp .eql 24 (.slice (some a) n c) (.slice none 0 0)).run Try.prog w = .ok (.bool false) w := Lib.run_eql_slice_nil w _ _ (some a) n c 0 0 Try.underlying24
set_option maxHeartbeats 1000000 in
set_option maxRecDepth 100000 in
theorem cloneERow {w : World} {v : Value} {l : ERow.LL} (h : ERow.FS w v l) (hn : l.length ≤ ERow.big) : Calls Try.prog 15 #[v] w fun e w' => ∃ v', e = .returned v' ∧ ERow.OR w.heap.size w' v' l ∧ Below w.heap.size w w' := by
  have hF := h
  obtain ⟨a, c, rfl, hc, h⟩ := h
  cases a with
  | none =>
    have hl : l = [] := by rcases h with h | ⟨g, o, e, _⟩; exact h; cases e
    subst hl
    clear h hF
    show Calls Try.prog 15 #[.slice none 0 c] w _
    have hq : ∀ W, (binOp .eql 24 (.slice none 0 c) (.slice none 0 0)).run Try.prog W = .ok (.bool true) W := fun W => Lib.run_eql_slice_nil W _ _ none 0 c 0 0 Try.underlying24
    go_enter Try.func15, Try.ntmps15
    go_wp2
    go_ret
    exact ⟨_, rfl, ERow.or_nil _ _, Below.refl _ _⟩
  | some a =>
    have hq := eqlnERow a l.length c
    obtain ⟨v', W', hr, hbd⟩ := ERow.bd_app (madeERow w) (.slice (some a) l.length c) l (hF.below (ERow.bnew w _)) (by simpa using hn)
    have HB := hid_of hbd
    clear hbd hF h
    go_enter Try.func15, Try.ntmps15
    go_wp2_with (at_builtin; refine wpl_eq rfl _ _ 24 24 rfl (.slice (some ⟨w.heap.size, 0, none⟩) 0 0) (.slice (some a) l.length c) v' _ W' rfl rfl hr ?_)
    go_ret
    exact ⟨v', rfl, HB.out.row, HB.out.bel⟩
theorem shapeERow {B : Nat} {w : World} {v : Value} {l : ERow.LL} (h : ERow.OR B w v l) : ∃ a c, v = .slice a l.length c := by
  obtain ⟨a, c, e, _⟩ := ERow.fs_row h
  exact ⟨a, c, e⟩

abbrev TT : Nat → Prop := fun _ => True
theorem box5 {w : World} {b : Nat} {x0 x1 x2 x3 x4 : Value} {t : TypeId} (h : w.heap[b]? = some (.cells #[x0, x1, x2, x3, x4] t (0, 0))) :
    (w.cell? ⟨b, 0, none⟩ = some x0 ∧ w.cell? ⟨b, 1, none⟩ = some x1 ∧ w.cell? ⟨b, 2, none⟩ = some x2 ∧ w.cell? ⟨b, 3, none⟩ = some x3 ∧ w.cell? ⟨b, 4, none⟩ = some x4) ∧ ∀ i, w.frozen? ⟨b, i, none⟩ = false :=
  ⟨⟨Lib.cell_of_heap h 0, Lib.cell_of_heap h 1, Lib.cell_of_heap h 2, Lib.cell_of_heap h 3, Lib.cell_of_heap h 4⟩, fun i => Lib.frozen_of_heap h i⟩
theorem box3 {w : World} {b : Nat} {x0 x1 x2 : Value} {t : TypeId} (h : w.heap[b]? = some (.cells #[x0, x1, x2] t (0, 0))) :
    (w.cell? ⟨b, 0, none⟩ = some x0 ∧ w.cell? ⟨b, 1, none⟩ = some x1 ∧ w.cell? ⟨b, 2, none⟩ = some x2) ∧ ∀ i, w.frozen? ⟨b, i, none⟩ = false :=
  ⟨⟨Lib.cell_of_heap h 0, Lib.cell_of_heap h 1, Lib.cell_of_heap h 2⟩, fun i => Lib.frozen_of_heap h i⟩
theorem box2 {w : World} {b : Nat} {x0 x1 : Value} {t : TypeId} (h : w.heap[b]? = some (.cells #[x0, x1] t (0, 0))) :
    (w.cell? ⟨b, 0, none⟩ = some x0 ∧ w.cell? ⟨b, 1, none⟩ = some x1) ∧ ∀ i, w.frozen? ⟨b, i, none⟩ = false :=
  ⟨⟨Lib.cell_of_heap h 0, Lib.cell_of_heap h 1⟩, fun i => Lib.frozen_of_heap h i⟩
/- a value that is read -/
def VA (w : World) (v : Value) (x : Vl) : Prop := ∃ a b c, v = .agg #[.int .i64 x.kind, .string (mk x.text), a, b, c] ∧ SL TT w a x.list ∧ FRow.FS w b x.fields ∧ ERow.FS w c x.ranked
/- a value in new memory, from block B on -/
def VN (B : Nat) (w : World) (v : Value) (x : Vl) : Prop := ∃ a b c, v = .agg #[.int .i64 x.kind, .string (mk x.text), a, b, c] ∧ NR B w a x.list ∧ FRow.OR B w b x.fields ∧ ERow.OR B w c x.ranked
structure Fit (x : Vl) : Prop where
  l : x.list.length * 16 ≤ 140737488355328
  f : x.fields.length ≤ FRow.big
  r : x.ranked.length ≤ ERow.big
theorem nr_sl {B : Nat} {w : World} {v : Value} {l : List El} (h : NR B w v l) : SL TT w v l := h.sl.mono fun _ _ _ => trivial
theorem VN.va {B : Nat} {w : World} {v : Value} {x : Vl} (h : VN B w v x) : VA w v x := by
  obtain ⟨a, b, c, rfl, h1, h2, h3⟩ := h
  exact ⟨a, b, c, rfl, nr_sl h1, FRow.fs_row h2, ERow.fs_row h3⟩
theorem VA.below {w w' : World} {v : Value} {x : Vl} (h : VA w v x) (hb : Below w.heap.size w w') : VA w' v x := by
  obtain ⟨a, b, c, rfl, h1, h2, h3⟩ := h
  exact ⟨a, b, c, rfl, h1.below hb, h2.below hb, h3.below hb⟩
theorem VN.below {B : Nat} {w w' : World} {v : Value} {x : Vl} (h : VN B w v x) (hb : Below w.heap.size w w') : VN B w' v x := by
  obtain ⟨a, b, c, rfl, h1, h2, h3⟩ := h
  exact ⟨a, b, c, rfl, h1.below hb, FRow.row_below h2 hb, ERow.row_below h3 hb⟩
theorem VN.mono {B B' : Nat} {w : World} {v : Value} {x : Vl} (h : VN B w v x) (hB : B' ≤ B) : VN B' w v x := by
  obtain ⟨a, b, c, rfl, h1, h2, h3⟩ := h
  exact ⟨a, b, c, rfl, h1.mono hB, FRow.row_mono h2 hB, ERow.row_mono h3 hB⟩
theorem bset {B : Nat} {w w' : World} (h : Below B w w') {b i : Nat} (hb : B ≤ b) (v : Value) : Below B w (w'.setCell ⟨b, i, none⟩ v) := h.setCell hb v
theorem seton {w : World} {b i : Nat} {v : Value} {B : Nat} (hB : B ≤ b) : Below B w (w.setCell ⟨b, i, none⟩ v) := (Below.refl B w).setCell hB v
end Go.Proofs.Ytdcnkdkhanmklab.Vals
