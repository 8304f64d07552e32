/- Find of the program: its row, or none. -/
import Derived.Test.YtgmnmcaclpfknaaIterR
import Derived.Test.YtgmnmcaclpfknaaLow
import Derived.Test.YtgmnmcaclpfknaaRowsL
import Derived.RangeFuncFrom
namespace Go.Proofs.Ytgmnmcaclpfknaa.FindP
open Go.RowKit
open Go.Proofs.Ytgmnmcaclpfknaa.Tab
open Go.Proofs.Ytgmnmcaclpfknaa.Base
open Go.Proofs.Ytgmnmcaclpfknaa.Sect
open Go.Proofs.Ytgmnmcaclpfknaa.Range
open Go.Proofs.Ytgmnmcaclpfknaa.Thr
open Go.Proofs.Ytgmnmcaclpfknaa.IterR
open Go.Proofs.Ytgmnmcaclpfknaa.Low
open Go.Proofs.Ytgmnmcaclpfknaa.RowsL (valS cellsS)
attribute [local go_sem] Oper.semAt_some
set_option linter.unusedVariables false
set_option linter.unusedSimpArgs false
def noSc : Sc := ⟨[], 0, false, false, 0, 0, 0⟩
theorem spec_call (r : Rw) (w : World) : Calls Try.prog 22 #[valR r] w fun e w' => e = .returned (valS (spec r)) ∧ Below w.heap.size w w' := by
  unfold valR cellsR
  show Calls Try.prog 22 #[.agg #[.string (mk r.name), .int .i64 r.arity, .int .i64 r.part, .int .i64 r.first, .int .i64 r.last, .int .i64 r.step]] w fun e w' => e = .returned (.agg #[.string (mk r.name), .int .i64 r.arity, .bool (r.part == 1), .bool (r.part == 2), .int .i64 r.first, .int .i64 r.last, .int .i64 r.step]) ∧ Below w.heap.size w w'
  generalize mk r.name = N
  go_enter Try.func22, Try.ntmps22
  go_wp2_with fail
  refine ⟨rfl, .agg #[.string N, .int .i64 r.arity, .bool (r.part == 1), .bool (r.part == 2), .int .i64 r.first, .int .i64 r.last, .int .i64 r.step], ?_, rfl, ((Below.refl _ w).alloc (Nat.le_refl _) _).alloc (by simp) _⟩
  simp [results, Try.results22, go_sem]
/- Find's own boxes: the row, whether it is one, the name in small letters -/
structure FI (w : World) (B T S : Nat) (s : Tab.Bs) (r : Sc) (b : Bool) (W : World) : Prop where
  bel : Below w.heap.size w W
  size : B ≤ W.heap.size
  t : W.heap[T]? = some (.cells (cellsS r).toArray 23 (0, 0))
  tb : W.heap[T + 1]? = some (.cells #[.bool b] 4 (0, 0))
  sm : W.heap[S]? = some (.cells #[.string (mk s)] 9 (0, 0))
  lt : T + 1 < B
  ls : S < B
  wT : w.heap.size ≤ T
  ts : S ≠ T ∧ S ≠ T + 1
section
variable {w : World} {B T S : Nat} {s : Tab.Bs} {r : Sc} {b : Bool} {W W' : World}
theorem FI.keep (h : FI w B T S s r b W) (hb : Below w.heap.size w W') (hs : W.heap.size ≤ W'.heap.size) (hk : ∀ (k : Nat) (cs : Array Value) (t : TypeId) (fz : Nat × Nat), k < B → W.heap[k]? = some (.cells cs t fz) → W'.heap[k]? = some (.cells cs t fz)) : FI w B T S s r b W' :=
  ⟨hb, Nat.le_trans h.size hs, hk _ _ _ _ (by have := h.lt; omega) h.t, hk _ _ _ _ h.lt h.tb, hk _ _ _ _ h.ls h.sm, h.lt, h.ls, h.wT, h.ts⟩
theorem FI.grown {row : Option Nat} (h : FI w B T S s r b W) (hg : W.grownBy W' row) (hr : ∀ r, row = some r → B ≤ r ∧ ∃ o : Obj, W.heap[r]? = some o ∧ o.isCells = false) : FI w B T S s r b W' :=
  h.keep (h.bel.grown hg h.bel.size (fun j hj => by have := (hr j hj).1; have := h.lt; have := h.wT; omega)) hg.size fun k cs t fz hk e => (hg.block k (lt_of e) (fun q => by have := (hr k q.symm).1; omega)).trans e
theorem FI.below (h : FI w B T S s r b W) (hb : Below W.heap.size W W') : FI w B T S s r b W' :=
  h.keep (h.bel.trans (hb.mono h.bel.size)) hb.size fun k cs t fz hk e => (hb.block k (lt_of e)).trans e
end
/- seven stores into a row's box -/
abbrev set7 (W : World) (T : Nat) (a0 a1 a2 a3 a4 a5 a6 : Value) : World := ((((((W.setCell ⟨T, 0, none⟩ a0).setCell ⟨T, 1, none⟩ a1).setCell ⟨T, 2, none⟩ a2).setCell ⟨T, 3, none⟩ a3).setCell ⟨T, 4, none⟩ a4).setCell ⟨T, 5, none⟩ a5).setCell ⟨T, 6, none⟩ a6
theorem set7_at {W : World} {T : Nat} {ty : TypeId} {fz : Nat × Nat} {cs : Array Value} (h : W.heap[T]? = some (.cells cs ty fz)) (hs : cs.size = 7) (a0 a1 a2 a3 a4 a5 a6 : Value) : (set7 W T a0 a1 a2 a3 a4 a5 a6).heap[T]? = some (.cells #[a0, a1, a2, a3, a4, a5, a6] ty fz) := by
  rw [set_at (set_at (set_at (set_at (set_at (set_at (set_at h a0) a1) a2) a3) a4) a5) a6]
  obtain ⟨l⟩ := cs
  match l, hs with
  | [b0, b1, b2, b3, b4, b5, b6], _ => simp
theorem set7_ne {W : World} {T k : Nat} (h : k ≠ T) (a0 a1 a2 a3 a4 a5 a6 : Value) : (set7 W T a0 a1 a2 a3 a4 a5 a6).heap[k]? = W.heap[k]? := by
  rw [set_ne h, set_ne h, set_ne h, set_ne h, set_ne h, set_ne h, set_ne h]
theorem set7_size {W : World} {T : Nat} (a0 a1 a2 a3 a4 a5 a6 : Value) : (set7 W T a0 a1 a2 a3 a4 a5 a6).heap.size = W.heap.size := by
  rw [size_set, size_set, size_set, size_set, size_set, size_set, size_set]
theorem set7_below {w W : World} {T : Nat} (h : Below w.heap.size w W) (hT : w.heap.size ≤ T) (a0 a1 a2 a3 a4 a5 a6 : Value) : Below w.heap.size w (set7 W T a0 a1 a2 a3 a4 a5 a6) :=
  ((((((h.setCell hT a0).setCell hT a1).setCell hT a2).setCell hT a3).setCell hT a4).setCell hT a5).setCell hT a6
theorem FI.told {w : World} {B T S : Nat} {s : Tab.Bs} {r : Sc} {b : Bool} {W : World} (h : FI w B T S s r b W) (r' : Sc) (b' : Bool) {a0 a1 a2 a3 a4 a5 a6 : Value} (ha : (cellsS r').toArray = #[a0, a1, a2, a3, a4, a5, a6]) : FI w B T S s r' b' ((set7 W T a0 a1 a2 a3 a4 a5 a6).setCell ⟨T + 1, 0, none⟩ (.bool b')) ∧ KeepsFrom B W ((set7 W T a0 a1 a2 a3 a4 a5 a6).setCell ⟨T + 1, 0, none⟩ (.bool b')) := by
  have h1 := h.lt
  refine ⟨⟨(set7_below h.bel h.wT a0 a1 a2 a3 a4 a5 a6).setCell (by have := h.wT; show _ ≤ T + 1; omega) _, by rw [size_set, set7_size]; exact h.size, ?_, ?_, ?_, h.lt, h.ls, h.wT, h.ts⟩, ⟨by rw [size_set, set7_size]; exact Nat.le_refl _, fun k o hk ho hc => ?_⟩⟩
  · rw [set_ne (by omega), set7_at h.t (by rfl), ha]
  · rw [set_at ((set7_ne (by omega) a0 a1 a2 a3 a4 a5 a6).trans h.tb)]; rfl
  · rw [set_ne (by have := h.ts; omega), set7_ne (by have := h.ts; omega)]; exact h.sm
  · rw [set_ne (by omega), set7_ne (by omega)]; exact ho
def fnd (s : Tab.Bs) : Sc × Bool := match findR s with
  | some x => (spec x, true)
  | none => (noSc, false)
theorem fnd_no {s : Tab.Bs} (h : ∀ x ∈ allRows, x.name ≠ s) : fnd s = (noSc, false) := by
  have : findR s = none := by
    unfold findR
    rw [List.find?_eq_none]
    intro x hx e
    exact h x hx (eq_of_beq e)
  unfold fnd
  rw [this]
theorem fnd_yes {s : Tab.Bs} {p : List Rw} {x : Rw} (hp : p ++ [x] <+: allRows) (hx : x.name = s) (h : ∀ y ∈ p, y.name ≠ s) : fnd s = (spec x, true) := by
  obtain ⟨r, hr⟩ := hp
  have : findR s = some x := by
    unfold findR
    rw [← hr, List.append_assoc, List.find?_append, List.find?_eq_none.2 (fun y hy e => h y hy (eq_of_beq e))]
    simp [hx]
  unfold fnd
  rw [this]
def findV (s : Tab.Bs) : Value := .tuple #[valS (fnd s).1, .bool (fnd s).2]
theorem str_no {a b : Tab.Bs} (h : a ≠ b) : ((mk a).toList == (mk b).toList) = false := by rw [str_eq]; exact decide_eq_false h
theorem str_yes (a : Tab.Bs) : ((mk a).toList == (mk a).toList) = true := by rw [str_eq]; exact decide_eq_true rfl
theorem cell_put {W : World} {D T : Nat} {o o' : Obj} {cs : Array Value} {t : TypeId} {fz : Nat × Nat} (hd : W.heap[D]? = some (.deferred (some []))) (h : W.heap[T]? = some (.cells cs t fz)) : (W.putObj D o').heap[T]? = some (.cells cs t fz) :=
  (World.putObj_heap_other (by rintro rfl; rw [hd] at h; cases h)).trans h
end Go.Proofs.Ytgmnmcaclpfknaa.FindP
