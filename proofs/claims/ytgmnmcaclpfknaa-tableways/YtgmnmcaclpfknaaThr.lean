/- through: the rows of one table, one by one; rows: all of them, as an iterator. -/
import Derived.Test.YtgmnmcaclpfknaaSect
import Derived.Test.YtgmnmcaclpfknaaRange
import Derived.Deep.LoopGhost
import Derived.TacticsInMore
import Derived.LoopNIn
import Derived.LoopIn
import Derived.OwnWalkIn
import Derived.Shelf.Abstract
namespace Go.Proofs.Ytgmnmcaclpfknaa.Thr
open Go.RowKit
open Go.Proofs.Ytgmnmcaclpfknaa.Tab
open Go.Proofs.Ytgmnmcaclpfknaa.Base
open Go.Proofs.Ytgmnmcaclpfknaa.Sect
open Go.Proofs.Ytgmnmcaclpfknaa.Range
attribute [local go_sem] Oper.semAt_some
set_option linter.unusedVariables false
set_option linter.unusedSimpArgs false
/- a world that has grown -/
def Gw (B : Nat) (A A' : World) : Prop := Below A.heap.size A A'
/- what a round must leave: the rows -/
structure Kp (A A' : World) : Prop where
  size : A.heap.size ≤ A'.heap.size
  row : ∀ (k : Nat) (cs : Array Value) (fz : Nat × Nat), A.heap[k]? = some (.cells cs 42 fz) → A'.heap[k]? = A.heap[k]?
theorem Kp.trans {A B C : World} (h : Kp A B) (k : Kp B C) : Kp A C := ⟨Nat.le_trans h.size k.size, fun i cs fz e => by
  have q := h.row i cs fz e
  exact (k.row i cs fz (q.trans e)).trans q⟩
theorem Kp.of_below {A B : World} (h : Below A.heap.size A B) : Kp A B := ⟨h.size, fun k cs fz e => h.block k (lt_of e)⟩
theorem flat6 (f : Rw → List Value) (h : ∀ r, (f r).length = 6) : ∀ (l : List Rw) (k j : Nat) (hk : k < l.length), j < 6 → (l.flatMap f)[k * 6 + j]? = (f l[k])[j]?
  | [], k, j, hk, _ => by simp at hk
  | r :: l, 0, j, hk, hj => by
    rw [List.flatMap_cons, List.getElem?_append_left (by rw [h]; omega)]
    simp
  | r :: l, k + 1, j, hk, hj => by
    rw [List.flatMap_cons, List.getElem?_append_right (by rw [h]; omega), h, show (k + 1) * 6 + j - 6 = k * 6 + j by omega]
    exact flat6 f h l k j (by simpa using hk) hj
theorem cells_at (l : List Rw) (k j : Nat) (hk : k < l.length) (hj : j < 6) : (cellsOf l)[k * 6 + j]? = (cellsR l[k])[j]? := by
  unfold cellsOf
  rw [List.getElem?_toArray, List.flatMap_map]
  exact flat6 (fun r => (valR r).cells.toList) (fun r => rfl) l k j hk hj
theorem row_cells {W : World} {g : Nat} {l : List Rw} (h : W.heap[g]? = some (.cells (cellsOf l) 42 (0, 0))) (k : Nat) (hk : k < l.length) :
    W.cell? ⟨g, k * 6, none⟩ = some (.string (mk l[k].name)) ∧ W.cell? ⟨g, k * 6 + 1, none⟩ = some (.int .i64 l[k].arity) ∧ W.cell? ⟨g, k * 6 + 2, none⟩ = some (.int .i64 l[k].part) ∧ W.cell? ⟨g, k * 6 + 3, none⟩ = some (.int .i64 l[k].first) ∧ W.cell? ⟨g, k * 6 + 4, none⟩ = some (.int .i64 l[k].last) ∧ W.cell? ⟨g, k * 6 + 5, none⟩ = some (.int .i64 l[k].step) := by
  refine ⟨?_, ?_, ?_, ?_, ?_, ?_⟩
  · rw [Lib.cell_of_heap h]; exact cells_at l k 0 hk (by omega)
  all_goals (rw [Lib.cell_of_heap h, cells_at l k _ hk (by omega)]; rfl)
set_option maxHeartbeats 4000000 in
set_option maxRecDepth 100000 in
theorem through_call {n L N g : Nat} {l p0 : List Rw} {J Jx : List Rw → World → Prop} {W : World} (hl : l.length ≤ 118) (hg : W.heap[g]? = some (.cells (cellsOf l) 42 (0, 0)))
    (hJ : ∀ s A A', J s A → Below A.heap.size A A' → J s A')
    (hY : ∀ pre x W1, J pre W1 → pre.length < N → YieldAt Fence.wide (n - 1) Try.prog L #[valR x] W1 fun e W' => (e = .returned (.bool true) ∧ J (pre ++ [x]) W' ∧ Kp W1 W') ∨ (e = .returned (.bool false) ∧ Jx (pre ++ [x]) W'))
    (h0 : J p0 W) (hN : p0.length + l.length ≤ N) :
    Calls Try.prog 39 #[.slice (some ⟨g, 0, none⟩) l.length l.length, .func (.yield L) #[] #[]] W fun e W' => ∃ b, e = .returned (.bool b) ∧ ((b = true ∧ J (p0 ++ l) W') ∨ (b = false ∧ ∃ k, k < l.length ∧ Jx (p0 ++ l.take (k + 1)) W')) := by
  have HY := hid_of hY
  have HJ := hid_of hJ
  have H0 := hid_of (And.intro h0 hg)
  have HN := hid_of hN
  clear hY hJ h0 hN hg
  go_enter Try.func39, Try.ntmps39
  go_wp2_with fail
  go_loopg [9] l.length (fun gk s9 wx => ∃ k : Nat, k ≤ l.length ∧ l.length ≤ k + gk ∧ s9 = .int .i64 (k : Int) ∧ Hid (J (p0 ++ l.take k) wx ∧ wx.heap[g]? = some (.cells (cellsOf l) 42 (0, 0))))
  case atStart => exact ⟨0, by omega, by omega, rfl, hid_of (by simpa using H0.out)⟩
  case round =>
    obtain ⟨k, hk, hgk, rfl, I⟩ := hrel
    refine (wpIn_wide (n := n)).1 ?_
    by_cases hlt : k < l.length
    · obtain ⟨g', rfl⟩ : ∃ g', gk = g' + 1 := ⟨gk - 1, by omega⟩
      obtain ⟨c0, c1, c2, c3, c4, c5⟩ := row_cells I.out.2 k hlt
      obtain ⟨x, hx⟩ : ∃ x, x = l[k] := ⟨_, rfl⟩
      rw [← hx] at c0 c1 c2 c3 c4 c5
      have e2 : IntKind.i64.wrap ((k : Int) + 1) = (k : Int) + 1 := IntWalk.i64_in _ (by omega)
      have g2 : (k : Int) < (l.length : Int) := by omega
      obtain ⟨ob, hob⟩ : ∃ ob : Obj, ob = .cells #[.string (mk x.name), .int .i64 x.arity, .int .i64 x.part, .int .i64 x.first, .int .i64 x.last, .int .i64 x.step] 42 := ⟨_, rfl⟩
      have bA : Below wr.heap.size wr (wr.alloc ob) := (Below.refl _ wr).alloc (Nat.le_refl _) _
      have htk : p0 ++ l.take k ++ [x] = p0 ++ l.take (k + 1) := by rw [hx, List.append_assoc, List.take_append_getElem hlt]
      obtain ⟨fn, tmps, assign, body, hy, hR⟩ := HY.out (p0 ++ l.take k) x (wr.alloc ob) (HJ.out _ _ _ I.out.1 bA) (by have := HN.out; rw [List.length_append, List.length_take]; omega)
      rw [htk] at hR
      have hgA : (wr.alloc ob).heap[g]? = some (.cells (cellsOf l) 42 (0, 0)) := (bA.block g (lt_of I.out.2)).trans I.out.2
      have HGA := hid_of hgA
      have HR := hid_of hR
      rw [show valR x = .agg #[.string (mk x.name), .int .i64 x.arity, .int .i64 x.part, .int .i64 x.first, .int .i64 x.last, .int .i64 x.step] from rfl] at hy
      subst hob
      clear hR hgA htk bA hx
      generalize mk x.name = X0 at *
      generalize x.arity = X1 at *
      generalize x.part = X2 at *
      generalize x.first = X3 at *
      generalize x.last = X4 at *
      generalize x.step = X5 at *
      gi_wp2_with fail
      refine ⟨(fun q => by cases q), HR.out.mono ?_⟩
      rintro r w4 (⟨rfl, j4, k4⟩ | ⟨rfl, j4⟩)
      · have HX := hid_of (And.intro j4 ((k4.row g _ _ HGA.out).trans HGA.out))
        clear j4 k4
        gi_wp2_with fail
        go_roundg g'
        case rel => exact ⟨k + 1, by omega, by omega, by rw [show ((k + 1 : Nat) : Int) = (k : Int) + 1 from by omega], HX⟩
        case measure => omega
      · have HX := hid_of j4
        clear j4
        gi_wp2_with fail
        refine bodyPost_ret (results_tmp rfl _ _ _) rfl ?_
        exact ⟨false, rfl, .inr ⟨rfl, k, hlt, HX.out⟩⟩
    · obtain rfl : k = l.length := by omega
      have gi : ¬ (l.length : Int) < (l.length : Int) := by omega
      gi_wp2_with fail
      go_wp2_with fail
      go_ret
      exact ⟨true, rfl, .inl ⟨rfl, by simpa using I.out.1⟩⟩
end Go.Proofs.Ytgmnmcaclpfknaa.Thr
