/- through: the rows of one table, one by one; rows: all of them, as an iterator. rows: all rows, as an iterator. Lower of both sides, and what is shown of a name. The document's table in memory. -/
import Derived.Test.YtcgdnpcegcmboaaGreatDoorRunM
import Derived.Deep.LoopGhost
import Derived.TacticsInMore
import Derived.LoopNIn
import Derived.LoopIn
import Derived.OwnWalkIn
import Derived.Shelf.Abstract
import Derived.Test.YtcgdnpcegcmboaaGreatDoorBaseM
import Derived.Laws.IdiomStrings
import Derived.Test.YtcgdnpcegcmboaaGreatDoorHCmdM
section
namespace Go.Proofs.YtcgdnpcegcmboaaGreatDoor.Thr
open Go.RowKit
open Go.Proofs.YtcgdnpcegcmboaaGreatDoor.Tab
open Go.Proofs.YtcgdnpcegcmboaaGreatDoor.Base
open Go.Proofs.YtcgdnpcegcmboaaGreatDoor.Sect
open Go.Proofs.YtcgdnpcegcmboaaGreatDoor.Range
attribute [local go_sem] Oper.semAt_some
set_option linter.unusedVariables false
set_option linter.unusedSimpArgs false
/- a world that has grown -/
def Gw (B : Nat) (A A' : World) : Prop := Below A.heap.size A A'
/- what a round must leave: the rows -/
structure Kp (A A' : World) : Prop where
  size : A.heap.size ≤ A'.heap.size
  row : ∀ (k : Nat) (cs : Array Value) (fz : Nat × Nat), A.heap[k]? = some (.cells cs 176 fz) → A'.heap[k]? = A.heap[k]?
theorem Kp.trans {A B C : World} (h : Kp A B) (k : Kp B C) : Kp A C := ⟨Nat.le_trans h.size k.size, fun i cs fz e => by
  have q := h.row i cs fz e
  exact (k.row i cs fz (q.trans e)).trans q⟩
theorem Kp.of_below {A B : World} (h : Below A.heap.size A B) : Kp A B := ⟨h.size, fun k cs fz e => h.block k (lt_of e)⟩
theorem flat6 (f : Rw → List Value) (h : ∀ r, (f r).length = 6) : ∀ (l : List Rw) (k j : Nat) (hk : k < l.length), j < 6 → (l.flatMap f)[k * 6 + j]? = (f l[k])[j]?
  | [], k, j, hk, _ => by simp at hk
  | r :: l, 0, j, hk, hj => by
    rw [List.flatMap_cons, List.getElem?_append_left (by rw [h]; omega)]
    simp
  | r :: l, k + 1, j, hk, hj => by
    rw [List.flatMap_cons, List.getElem?_append_right (by rw [h]; omega), h, show (k + 1) * 6 + j - 6 = k * 6 + j by omega]
    exact flat6 f h l k j (by simpa using hk) hj
theorem cells_at (l : List Rw) (k j : Nat) (hk : k < l.length) (hj : j < 6) : (cellsOf l)[k * 6 + j]? = (cellsR l[k])[j]? := by
  unfold cellsOf
  rw [List.getElem?_toArray, List.flatMap_map]
  exact flat6 (fun r => (valR r).cells.toList) (fun r => rfl) l k j hk hj
theorem row_cells {W : World} {g : Nat} {l : List Rw} (h : W.heap[g]? = some (.cells (cellsOf l) 176 (0, 0))) (k : Nat) (hk : k < l.length) :
    W.cell? ⟨g, k * 6, none⟩ = some (.string (mk l[k].name)) ∧ W.cell? ⟨g, k * 6 + 1, none⟩ = some (.int .i64 l[k].arity) ∧ W.cell? ⟨g, k * 6 + 2, none⟩ = some (.int .i64 l[k].part) ∧ W.cell? ⟨g, k * 6 + 3, none⟩ = some (.int .i64 l[k].first) ∧ W.cell? ⟨g, k * 6 + 4, none⟩ = some (.int .i64 l[k].last) ∧ W.cell? ⟨g, k * 6 + 5, none⟩ = some (.int .i64 l[k].step) := by
  refine ⟨?_, ?_, ?_, ?_, ?_, ?_⟩
  · rw [Lib.cell_of_heap h]; exact cells_at l k 0 hk (by omega)
  all_goals (rw [Lib.cell_of_heap h, cells_at l k _ hk (by omega)]; rfl)
set_option maxHeartbeats 4000000 in
set_option maxRecDepth 100000 in
theorem through_call {n L N g : Nat} {l p0 : List Rw} {J Jx : List Rw → World → Prop} {W : World} (hl : l.length ≤ 118) (hg : W.heap[g]? = some (.cells (cellsOf l) 176 (0, 0)))
    (hJ : ∀ s A A', J s A → Below A.heap.size A A' → J s A')
    (hY : ∀ pre x W1, J pre W1 → pre.length < N → YieldAt Fence.wide (n - 1) Tryz.prog L #[valR x] W1 fun e W' => (e = .returned (.bool true) ∧ J (pre ++ [x]) W' ∧ Kp W1 W') ∨ (e = .returned (.bool false) ∧ Jx (pre ++ [x]) W'))
    (h0 : J p0 W) (hN : p0.length + l.length ≤ N) :
    Calls Tryz.prog 186 #[.slice (some ⟨g, 0, none⟩) l.length l.length, .func (.yield L) #[] #[]] W fun e W' => ∃ b, e = .returned (.bool b) ∧ ((b = true ∧ J (p0 ++ l) W') ∨ (b = false ∧ ∃ k, k < l.length ∧ Jx (p0 ++ l.take (k + 1)) W')) := by
  have HY := hid_of hY
  have HJ := hid_of hJ
  have H0 := hid_of (And.intro h0 hg)
  have HN := hid_of hN
  clear hY hJ h0 hN hg
  go_enter Tryz.func186, Tryz.ntmps186
  go_wp2_with fail
  go_loopg [9] l.length (fun gk s9 wx => ∃ k : Nat, k ≤ l.length ∧ l.length ≤ k + gk ∧ s9 = .int .i64 (k : Int) ∧ Hid (J (p0 ++ l.take k) wx ∧ wx.heap[g]? = some (.cells (cellsOf l) 176 (0, 0))))
  case atStart => exact ⟨0, by omega, by omega, rfl, hid_of (by simpa using H0.out)⟩
  case round =>
    obtain ⟨k, hk, hgk, rfl, I⟩ := hrel
    refine (wpIn_wide (n := n)).1 ?_
    by_cases hlt : k < l.length
    · obtain ⟨g', rfl⟩ : ∃ g', gk = g' + 1 := ⟨gk - 1, by omega⟩
      obtain ⟨c0, c1, c2, c3, c4, c5⟩ := row_cells I.out.2 k hlt
      obtain ⟨x, hx⟩ : ∃ x, x = l[k] := ⟨_, rfl⟩
      rw [← hx] at c0 c1 c2 c3 c4 c5
      have e2 : IntKind.i64.wrap ((k : Int) + 1) = (k : Int) + 1 := IntWalk.i64_in _ (by omega)
      have g2 : (k : Int) < (l.length : Int) := by omega
      obtain ⟨ob, hob⟩ : ∃ ob : Obj, ob = .cells #[.string (mk x.name), .int .i64 x.arity, .int .i64 x.part, .int .i64 x.first, .int .i64 x.last, .int .i64 x.step] 176 := ⟨_, rfl⟩
      have bA : Below wr.heap.size wr (wr.alloc ob) := (Below.refl _ wr).alloc (Nat.le_refl _) _
      have htk : p0 ++ l.take k ++ [x] = p0 ++ l.take (k + 1) := by rw [hx, List.append_assoc, List.take_append_getElem hlt]
      obtain ⟨fn, tmps, assign, body, hy, hR⟩ := HY.out (p0 ++ l.take k) x (wr.alloc ob) (HJ.out _ _ _ I.out.1 bA) (by have := HN.out; rw [List.length_append, List.length_take]; omega)
      rw [htk] at hR
      have hgA : (wr.alloc ob).heap[g]? = some (.cells (cellsOf l) 176 (0, 0)) := (bA.block g (lt_of I.out.2)).trans I.out.2
      have HGA := hid_of hgA
      have HR := hid_of hR
      rw [show valR x = .agg #[.string (mk x.name), .int .i64 x.arity, .int .i64 x.part, .int .i64 x.first, .int .i64 x.last, .int .i64 x.step] from rfl] at hy
      subst hob
      clear hR hgA htk bA hx
      generalize mk x.name = X0 at *
      generalize x.arity = X1 at *
      generalize x.part = X2 at *
      generalize x.first = X3 at *
      generalize x.last = X4 at *
      generalize x.step = X5 at *
      gi_wp2_with fail
      refine ⟨(fun q => by cases q), HR.out.mono ?_⟩
      rintro r w4 (⟨rfl, j4, k4⟩ | ⟨rfl, j4⟩)
      · have HX := hid_of (And.intro j4 ((k4.row g _ _ HGA.out).trans HGA.out))
        clear j4 k4
        gi_wp2_with fail
        go_roundg g'
        case rel => exact ⟨k + 1, by omega, by omega, by rw [show ((k + 1 : Nat) : Int) = (k : Int) + 1 from by omega], HX⟩
        case measure => omega
      · have HX := hid_of j4
        clear j4
        gi_wp2_with fail
        refine bodyPost_ret (results_tmp rfl _ _ _) rfl ?_
        exact ⟨false, rfl, .inr ⟨rfl, k, hlt, HX.out⟩⟩
    · obtain rfl : k = l.length := by omega
      have gi : ¬ (l.length : Int) < (l.length : Int) := by omega
      gi_wp2_with fail
      go_wp2_with fail
      go_ret
      exact ⟨true, rfl, .inl ⟨rfl, by simpa using I.out.1⟩⟩
end Go.Proofs.YtcgdnpcegcmboaaGreatDoor.Thr
end
section
namespace Go.Proofs.YtcgdnpcegcmboaaGreatDoor.IterR
open Go.RowKit
open Go.Proofs.YtcgdnpcegcmboaaGreatDoor.Tab
open Go.Proofs.YtcgdnpcegcmboaaGreatDoor.Base
open Go.Proofs.YtcgdnpcegcmboaaGreatDoor.Sect
open Go.Proofs.YtcgdnpcegcmboaaGreatDoor.Range
open Go.Proofs.YtcgdnpcegcmboaaGreatDoor.Thr
attribute [local go_sem] Oper.semAt_some
set_option linter.unusedVariables false
set_option linter.unusedSimpArgs false
def SecE (J Jx : List Rw → World → Prop) (p l : List Rw) (e : Ending) (W' : World) : Prop := ∃ b, e = .returned (.bool b) ∧ ((b = true ∧ J (p ++ l) W') ∨ (b = false ∧ ∃ k, k < l.length ∧ Jx (p ++ l.take (k + 1)) W'))
theorem s_controlRows {n L : Nat} {J Jx : List Rw → World → Prop} (hJ : ∀ s A A', J s A → Below A.heap.size A A' → J s A')
    (hY : ∀ pre x W1, J pre W1 → pre.length < 118 → YieldAt Fence.wide (n - 1) Tryz.prog L #[valR x] W1 fun e W' => (e = .returned (.bool true) ∧ J (pre ++ [x]) W' ∧ Kp W1 W') ∨ (e = .returned (.bool false) ∧ Jx (pre ++ [x]) W')) (p : List Rw) (W : World) (h0 : J p W) (hp : p.length + 7 ≤ 118) : Calls Tryz.prog 159 #[.func (.yield L) #[] #[]] W (SecE J Jx p controlRows) :=
  controlRows.call _ W _ (through_call (n := n) (l := controlRows) (by decide) (heap_alloc_new W _) hJ hY (hJ _ _ _ h0 ((Below.refl _ W).alloc (Nat.le_refl _) _)) (by rw [show controlRows.length = 7 from rfl]; exact hp))
theorem s_stringRows {n L : Nat} {J Jx : List Rw → World → Prop} (hJ : ∀ s A A', J s A → Below A.heap.size A A' → J s A')
    (hY : ∀ pre x W1, J pre W1 → pre.length < 118 → YieldAt Fence.wide (n - 1) Tryz.prog L #[valR x] W1 fun e W' => (e = .returned (.bool true) ∧ J (pre ++ [x]) W' ∧ Kp W1 W') ∨ (e = .returned (.bool false) ∧ Jx (pre ++ [x]) W')) (p : List Rw) (W : World) (h0 : J p W) (hp : p.length + 24 ≤ 118) : Calls Tryz.prog 160 #[.func (.yield L) #[] #[]] W (SecE J Jx p stringRows) :=
  stringRows.call _ W _ (through_call (n := n) (l := stringRows) (by decide) (heap_alloc_new W _) hJ hY (hJ _ _ _ h0 ((Below.refl _ W).alloc (Nat.le_refl _) _)) (by rw [show stringRows.length = 24 from rfl]; exact hp))
theorem s_keyRows {n L : Nat} {J Jx : List Rw → World → Prop} (hJ : ∀ s A A', J s A → Below A.heap.size A A' → J s A')
    (hY : ∀ pre x W1, J pre W1 → pre.length < 118 → YieldAt Fence.wide (n - 1) Tryz.prog L #[valR x] W1 fun e W' => (e = .returned (.bool true) ∧ J (pre ++ [x]) W' ∧ Kp W1 W') ∨ (e = .returned (.bool false) ∧ Jx (pre ++ [x]) W')) (p : List Rw) (W : World) (h0 : J p W) (hp : p.length + 25 ≤ 118) : Calls Tryz.prog 161 #[.func (.yield L) #[] #[]] W (SecE J Jx p keyRows) :=
  keyRows.call _ W _ (through_call (n := n) (l := keyRows) (by decide) (heap_alloc_new W _) hJ hY (hJ _ _ _ h0 ((Below.refl _ W).alloc (Nat.le_refl _) _)) (by rw [show keyRows.length = 25 from rfl]; exact hp))
theorem s_listRows {n L : Nat} {J Jx : List Rw → World → Prop} (hJ : ∀ s A A', J s A → Below A.heap.size A A' → J s A')
    (hY : ∀ pre x W1, J pre W1 → pre.length < 118 → YieldAt Fence.wide (n - 1) Tryz.prog L #[valR x] W1 fun e W' => (e = .returned (.bool true) ∧ J (pre ++ [x]) W' ∧ Kp W1 W') ∨ (e = .returned (.bool false) ∧ Jx (pre ++ [x]) W')) (p : List Rw) (W : World) (h0 : J p W) (hp : p.length + 16 ≤ 118) : Calls Tryz.prog 162 #[.func (.yield L) #[] #[]] W (SecE J Jx p listRows) :=
  listRows.call _ W _ (through_call (n := n) (l := listRows) (by decide) (heap_alloc_new W _) hJ hY (hJ _ _ _ h0 ((Below.refl _ W).alloc (Nat.le_refl _) _)) (by rw [show listRows.length = 16 from rfl]; exact hp))
theorem s_hashRows {n L : Nat} {J Jx : List Rw → World → Prop} (hJ : ∀ s A A', J s A → Below A.heap.size A A' → J s A')
    (hY : ∀ pre x W1, J pre W1 → pre.length < 118 → YieldAt Fence.wide (n - 1) Tryz.prog L #[valR x] W1 fun e W' => (e = .returned (.bool true) ∧ J (pre ++ [x]) W' ∧ Kp W1 W') ∨ (e = .returned (.bool false) ∧ Jx (pre ++ [x]) W')) (p : List Rw) (W : World) (h0 : J p W) (hp : p.length + 14 ≤ 118) : Calls Tryz.prog 163 #[.func (.yield L) #[] #[]] W (SecE J Jx p hashRows) :=
  hashRows.call _ W _ (through_call (n := n) (l := hashRows) (by decide) (heap_alloc_new W _) hJ hY (hJ _ _ _ h0 ((Below.refl _ W).alloc (Nat.le_refl _) _)) (by rw [show hashRows.length = 14 from rfl]; exact hp))
theorem s_setRows {n L : Nat} {J Jx : List Rw → World → Prop} (hJ : ∀ s A A', J s A → Below A.heap.size A A' → J s A')
    (hY : ∀ pre x W1, J pre W1 → pre.length < 118 → YieldAt Fence.wide (n - 1) Tryz.prog L #[valR x] W1 fun e W' => (e = .returned (.bool true) ∧ J (pre ++ [x]) W' ∧ Kp W1 W') ∨ (e = .returned (.bool false) ∧ Jx (pre ++ [x]) W')) (p : List Rw) (W : World) (h0 : J p W) (hp : p.length + 15 ≤ 118) : Calls Tryz.prog 164 #[.func (.yield L) #[] #[]] W (SecE J Jx p setRows) :=
  setRows.call _ W _ (through_call (n := n) (l := setRows) (by decide) (heap_alloc_new W _) hJ hY (hJ _ _ _ h0 ((Below.refl _ W).alloc (Nat.le_refl _) _)) (by rw [show setRows.length = 15 from rfl]; exact hp))
theorem s_scoreRows {n L : Nat} {J Jx : List Rw → World → Prop} (hJ : ∀ s A A', J s A → Below A.heap.size A A' → J s A')
    (hY : ∀ pre x W1, J pre W1 → pre.length < 118 → YieldAt Fence.wide (n - 1) Tryz.prog L #[valR x] W1 fun e W' => (e = .returned (.bool true) ∧ J (pre ++ [x]) W' ∧ Kp W1 W') ∨ (e = .returned (.bool false) ∧ Jx (pre ++ [x]) W')) (p : List Rw) (W : World) (h0 : J p W) (hp : p.length + 17 ≤ 118) : Calls Tryz.prog 165 #[.func (.yield L) #[] #[]] W (SecE J Jx p scoreRows) :=
  scoreRows.call _ W _ (through_call (n := n) (l := scoreRows) (by decide) (heap_alloc_new W _) hJ hY (hJ _ _ _ h0 ((Below.refl _ W).alloc (Nat.le_refl _) _)) (by rw [show scoreRows.length = 17 from rfl]; exact hp))
theorem pre_of {p l r : List Rw} {k : Nat} (h : p ++ l ++ r = allRows) : p ++ l.take k <+: allRows := ⟨l.drop k ++ r, by rw [← h, List.append_assoc, ← List.append_assoc (l.take k), List.take_append_drop, ← List.append_assoc]⟩
set_option maxHeartbeats 4000000 in
set_option maxRecDepth 100000 in
theorem rows_pos {n L : Nat} {J Jx : List Rw → World → Prop} {W : World} (hJ : ∀ s A A', J s A → Below A.heap.size A A' → J s A')
    (hY : ∀ pre x W1, J pre W1 → pre.length < 118 → YieldAt Fence.wide (n - 1) Tryz.prog L #[valR x] W1 fun e W' => (e = .returned (.bool true) ∧ J (pre ++ [x]) W' ∧ Kp W1 W') ∨ (e = .returned (.bool false) ∧ Jx (pre ++ [x]) W'))
    (h0 : J [] W) : Calls Tryz.prog 128 #[.func (.yield L) #[] #[]] W fun e W' => (∃ v, e = .returned v) ∧ ((∃ xs, xs = allRows ∧ J xs W') ∨ ∃ pre, pre <+: allRows ∧ Jx pre W') := by
  obtain ⟨p0, P0⟩ : ∃ p0, Hid (p0 = []) := ⟨_, hid_of rfl⟩
  have HS0 : Hid (∀ W, J p0 W → Calls Tryz.prog 159 #[.func (.yield L) #[] #[]] W (SecE J Jx p0 controlRows)) := hid_of fun W h => s_controlRows hJ hY p0 W h (by rw [P0.out]; decide)
  obtain ⟨p1, P1⟩ : ∃ p1, Hid (p1 = controlRows) := ⟨_, hid_of rfl⟩
  have HS1 : Hid (∀ W, J p1 W → Calls Tryz.prog 160 #[.func (.yield L) #[] #[]] W (SecE J Jx p1 stringRows)) := hid_of fun W h => s_stringRows hJ hY p1 W h (by rw [P1.out]; decide)
  obtain ⟨p2, P2⟩ : ∃ p2, Hid (p2 = controlRows ++ stringRows) := ⟨_, hid_of rfl⟩
  have HS2 : Hid (∀ W, J p2 W → Calls Tryz.prog 161 #[.func (.yield L) #[] #[]] W (SecE J Jx p2 keyRows)) := hid_of fun W h => s_keyRows hJ hY p2 W h (by rw [P2.out]; decide)
  obtain ⟨p3, P3⟩ : ∃ p3, Hid (p3 = controlRows ++ stringRows ++ keyRows) := ⟨_, hid_of rfl⟩
  have HS3 : Hid (∀ W, J p3 W → Calls Tryz.prog 162 #[.func (.yield L) #[] #[]] W (SecE J Jx p3 listRows)) := hid_of fun W h => s_listRows hJ hY p3 W h (by rw [P3.out]; decide)
  obtain ⟨p4, P4⟩ : ∃ p4, Hid (p4 = controlRows ++ stringRows ++ keyRows ++ listRows) := ⟨_, hid_of rfl⟩
  have HS4 : Hid (∀ W, J p4 W → Calls Tryz.prog 163 #[.func (.yield L) #[] #[]] W (SecE J Jx p4 hashRows)) := hid_of fun W h => s_hashRows hJ hY p4 W h (by rw [P4.out]; decide)
  obtain ⟨p5, P5⟩ : ∃ p5, Hid (p5 = controlRows ++ stringRows ++ keyRows ++ listRows ++ hashRows) := ⟨_, hid_of rfl⟩
  have HS5 : Hid (∀ W, J p5 W → Calls Tryz.prog 164 #[.func (.yield L) #[] #[]] W (SecE J Jx p5 setRows)) := hid_of fun W h => s_setRows hJ hY p5 W h (by rw [P5.out]; decide)
  obtain ⟨p6, P6⟩ : ∃ p6, Hid (p6 = controlRows ++ stringRows ++ keyRows ++ listRows ++ hashRows ++ setRows) := ⟨_, hid_of rfl⟩
  have HS6 : Hid (∀ W, J p6 W → Calls Tryz.prog 165 #[.func (.yield L) #[] #[]] W (SecE J Jx p6 scoreRows)) := hid_of fun W h => s_scoreRows hJ hY p6 W h (by rw [P6.out]; decide)
  have H0 : Hid (J p0 W) := hid_of (by rw [P0.out]; exact h0)
  clear hJ hY h0
  go_enter Tryz.func128, Tryz.ntmps128
  go_wp2_with fail
  refine (HS0.out _ H0.out).mono ?_
  rintro e w1 ⟨b, rfl, (⟨rfl, h⟩ | ⟨rfl, k, hk, h⟩)⟩
  case inr =>
    have HX := hid_of h
    clear h
    go_wp2_with fail
    go_end0
    exact ⟨⟨_, rfl⟩, .inr ⟨_, pre_of (r := stringRows ++ keyRows ++ listRows ++ hashRows ++ setRows ++ scoreRows) (by rw [P0.out]; kernel_rfl), HX.out⟩⟩
  have H1 : Hid (J p1 w1) := hid_of (by rw [P1.out]; rw [P0.out] at h; exact h)
  clear h
  go_wp2_with fail
  refine (HS1.out _ H1.out).mono ?_
  rintro e w2 ⟨b, rfl, (⟨rfl, h⟩ | ⟨rfl, k, hk, h⟩)⟩
  case inr =>
    have HX := hid_of h
    clear h
    go_wp2_with fail
    go_end0
    exact ⟨⟨_, rfl⟩, .inr ⟨_, pre_of (r := keyRows ++ listRows ++ hashRows ++ setRows ++ scoreRows) (by rw [P1.out]; kernel_rfl), HX.out⟩⟩
  have H2 : Hid (J p2 w2) := hid_of (by rw [P2.out]; rw [P1.out] at h; exact h)
  clear h
  go_wp2_with fail
  refine (HS2.out _ H2.out).mono ?_
  rintro e w3 ⟨b, rfl, (⟨rfl, h⟩ | ⟨rfl, k, hk, h⟩)⟩
  case inr =>
    have HX := hid_of h
    clear h
    go_wp2_with fail
    go_end0
    exact ⟨⟨_, rfl⟩, .inr ⟨_, pre_of (r := listRows ++ hashRows ++ setRows ++ scoreRows) (by rw [P2.out]; kernel_rfl), HX.out⟩⟩
  have H3 : Hid (J p3 w3) := hid_of (by rw [P3.out]; rw [P2.out] at h; exact h)
  clear h
  go_wp2_with fail
  refine (HS3.out _ H3.out).mono ?_
  rintro e w4 ⟨b, rfl, (⟨rfl, h⟩ | ⟨rfl, k, hk, h⟩)⟩
  case inr =>
    have HX := hid_of h
    clear h
    go_wp2_with fail
    go_end0
    exact ⟨⟨_, rfl⟩, .inr ⟨_, pre_of (r := hashRows ++ setRows ++ scoreRows) (by rw [P3.out]; kernel_rfl), HX.out⟩⟩
  have H4 : Hid (J p4 w4) := hid_of (by rw [P4.out]; rw [P3.out] at h; exact h)
  clear h
  go_wp2_with fail
  refine (HS4.out _ H4.out).mono ?_
  rintro e w5 ⟨b, rfl, (⟨rfl, h⟩ | ⟨rfl, k, hk, h⟩)⟩
  case inr =>
    have HX := hid_of h
    clear h
    go_wp2_with fail
    go_end0
    exact ⟨⟨_, rfl⟩, .inr ⟨_, pre_of (r := setRows ++ scoreRows) (by rw [P4.out]; kernel_rfl), HX.out⟩⟩
  have H5 : Hid (J p5 w5) := hid_of (by rw [P5.out]; rw [P4.out] at h; exact h)
  clear h
  go_wp2_with fail
  refine (HS5.out _ H5.out).mono ?_
  rintro e w6 ⟨b, rfl, (⟨rfl, h⟩ | ⟨rfl, k, hk, h⟩)⟩
  case inr =>
    have HX := hid_of h
    clear h
    go_wp2_with fail
    go_end0
    exact ⟨⟨_, rfl⟩, .inr ⟨_, pre_of (r := scoreRows) (by rw [P5.out]; kernel_rfl), HX.out⟩⟩
  have H6 : Hid (J p6 w6) := hid_of (by rw [P6.out]; rw [P5.out] at h; exact h)
  clear h
  go_wp2_with fail
  refine (HS6.out _ H6.out).mono ?_
  rintro e w7 ⟨b, rfl, (⟨rfl, h⟩ | ⟨rfl, k, hk, h⟩)⟩
  case inr =>
    have HX := hid_of h
    clear h
    go_wp2_with fail
    go_end0
    exact ⟨⟨_, rfl⟩, .inr ⟨_, pre_of (r := []) (by rw [P6.out]; kernel_rfl), HX.out⟩⟩
  have HX : Hid (J allRows w7) := hid_of (by rw [P6.out] at h; exact h)
  clear h
  go_wp2_with fail
  go_end0
  exact ⟨⟨_, rfl⟩, .inl ⟨_, rfl, HX.out⟩⟩
theorem rows_seq (n : Nat) (w : World) : SeqR Gw n Tryz.prog 128 #[] (fun x => #[valR x]) Kp (fun xs => xs = allRows) (fun pre => pre <+: allRows) 118 w := fun L J Jx W hW hJ _ hY hJ0 =>
  rows_pos (n := n) (fun s A A' h b => hJ s A A' h b) hY hJ0
end Go.Proofs.YtcgdnpcegcmboaaGreatDoor.IterR
end
section
namespace Go.Proofs.YtcgdnpcegcmboaaGreatDoor.Low
open Go.RowKit
open Go.Proofs.YtcgdnpcegcmboaaGreatDoor.Base
set_option linter.unusedVariables false
set_option linter.unusedSimpArgs false
def low (c : UInt8) : UInt8 := if 65 ≤ c.toNat ∧ c.toNat ≤ 90 then UInt8.ofNat (c.toNat + 32) else c
theorem low_yes {c : UInt8} (h1 : 65 ≤ c.toNat) (h2 : c.toNat ≤ 90) : ((low c).toNat : Int) = (c.toNat : Int) + 32 := by
  unfold low
  rw [if_pos ⟨h1, h2⟩]
  have : (UInt8.ofNat (c.toNat + 32)).toNat = c.toNat + 32 := by
    rw [UInt8.toNat_ofNat']; omega
  omega
theorem low_no {c : UInt8} (h : ¬ (65 ≤ c.toNat ∧ c.toNat ≤ 90)) : low c = c := by unfold low; rw [if_neg h]
def vis (c : UInt8) : UInt8 := if c.toNat < 32 ∨ 126 < c.toNat then 63 else c
theorem vis_yes {c : UInt8} (h : c.toNat < 32 ∨ 126 < c.toNat) : vis c = 63 := by unfold vis; rw [if_pos h]
theorem vis_no {c : UInt8} (h : ¬ (c.toNat < 32 ∨ 126 < c.toNat)) : vis c = c := by unfold vis; rw [if_neg h]
/-- The first k bytes turned, the others as they were. -/
def part (f : UInt8 → UInt8) (l : List UInt8) (k : Nat) : List UInt8 := (l.take k).map f ++ l.drop k
section
variable (f : UInt8 → UInt8) (l : List UInt8) (k : Nat)
theorem part_zero : part f l 0 = l := by simp [part]
theorem part_all (h : l.length ≤ k) : part f l k = l.map f := by
  unfold part
  rw [List.take_of_length_le h, List.drop_eq_nil_of_le h, List.append_nil]
theorem part_len : (part f l k).length = l.length := by
  unfold part
  rw [List.length_append, List.length_map, List.length_take, List.length_drop]; omega
theorem part_at (h : k < l.length) (hl : k < (part f l k).length) : (part f l k)[k] = l[k] := by
  have h1 : ((l.take k).map f).length = k := by rw [List.length_map, List.length_take]; omega
  have h2 : (part f l k)[k]? = some l[k] := by
    unfold part
    rw [List.getElem?_append_right (by omega), h1, Nat.sub_self, List.drop_eq_getElem_cons h]
    rfl
  rw [List.getElem?_eq_getElem hl] at h2
  exact Option.some.inj h2
theorem part_next (h : k < l.length) : (part f l k).set k (f l[k]) = part f l (k + 1) := by
  have h1 : ((l.take k).map f).length = k := by rw [List.length_map, List.length_take]; omega
  unfold part
  rw [List.set_append_right _ _ (by omega), h1, Nat.sub_self, List.drop_eq_getElem_cons h, List.set_cons_zero, List.take_succ_eq_append_getElem h, List.map_append, List.append_assoc]
  rfl
theorem part_same (h : k < l.length) (e : f l[k] = l[k]) : part f l k = part f l (k + 1) := by
  rw [← part_next f l k h, e]
  have := part_at f l k h (by rw [part_len]; exact h)
  rw [← this, List.set_getElem_self]
end
/- rows of bytes -/
def BRow (w : World) (B : Nat) (l : List UInt8) : Prop :=
  ∃ (C : Array Value) (N : Nat), w.heap[B]? = some (.cells C 5 (N, N + 1)) ∧ C.size = N ∧ l.length ≤ N ∧ ∀ j (h : j < l.length), C[j]? = some (.int .u8 l[j].toNat)
theorem BRow.cell {w : World} {B : Nat} {l : List UInt8} (h : BRow w B l) (j : Nat) (hj : j < l.length) : w.cell? ⟨B, j, none⟩ = some (.int .u8 l[j].toNat) := by
  obtain ⟨C, N, h1, h2, h3, h4⟩ := h
  rw [cell_of_row w B j _ _ _ h1, h4 j hj]
theorem BRow.frozen {w : World} {B : Nat} {l : List UInt8} (h : BRow w B l) (j : Nat) (hj : j < l.length) : w.frozen? ⟨B, j, none⟩ = false := by
  obtain ⟨C, N, h1, h2, h3, h4⟩ := h
  simp only [World.frozen?, h1]
  have : ¬ N ≤ j := by omega
  simp [this]
theorem BRow.put {w : World} {B : Nat} {l : List UInt8} (h : BRow w B l) (j : Nat) {X : Int} (c : UInt8) (hX : X = (c.toNat : Int)) : BRow (w.setCell ⟨B, j, none⟩ (.int .u8 X)) B (l.set j c) := by
  obtain ⟨C, N, h1, h2, h3, h4⟩ := h
  subst hX
  refine ⟨C.setIfInBounds j (.int .u8 c.toNat), N, ?_, by simp [h2], by rw [List.length_set]; exact h3, fun i hi => ?_⟩
  · simp [World.setCell, Array.getElem?_modify, h1]
  · rw [List.length_set] at hi
    rw [Array.getElem?_setIfInBounds, List.getElem_set]
    by_cases e : j = i
    · subst e; simp; omega
    · rw [if_neg e, if_neg e, h4 i hi]
theorem conv_in (l : List UInt8) (w : World) : ∃ cap w0, (convert 9 92 (.string (mk l))).run Tryz.prog w = .ok (.slice (some ⟨w.heap.size, 0, none⟩) l.length cap) w0 ∧ BRow w0 w.heap.size l ∧ Below w.heap.size w w0 := by
  have hq := run_bytes_of_string w 9 92 5 (mk l) Tryz.underlying9 Tryz.underlying92 Tryz.underlying5
  rw [mk_size] at hq
  refine ⟨_, _, hq, ⟨bytesRow (mk l) (grownCap w l.length 0 5), _, ?_, rfl, ?_, ?_⟩, ((Below.refl _ w).drew).alloc (Nat.le_refl _) _⟩
  · exact heap_alloc_new w.drew _
  · rw [← mk_size l]
    simp [bytesRow]
  · intro j hj
    unfold bytesRow
    rw [Array.getElem?_append_left (by simpa [mk] using hj), Array.getElem?_map]
    simp [mk, hj]
theorem conv_out {w : World} {B cap n : Nat} {l : List UInt8} (h : BRow w B l) (hn : n = l.length) : (convert 92 9 (.slice (some ⟨B, 0, none⟩) n cap)).run Tryz.prog w = .ok (.string (mk l)) w := by
  subst hn
  refine run_convert_bytes_back w 92 9 5 ⟨B, 0, none⟩ cap l Tryz.underlying92 Tryz.underlying5 Tryz.underlying9 (fun j hj => ?_)
  have e : (⟨B, 0, none⟩ : Addr).add j = ⟨B, j, none⟩ := by
    by_cases h0 : j = 0
    · subst h0; rfl
    · simp [Addr.add, h0]
  rw [e]
  exact h.cell j hj
theorem cut32 (l : List UInt8) : (mk l).extract 0 (min l.length 32) = mk (l.take 32) := by
  apply ByteArray.ext
  rw [ByteArray.data_extract]
  apply Array.toList_inj.1
  rw [Array.toList_extract]
  show (l.toArray.toList).extract 0 _ = (l.take 32)
  rw [List.extract_eq_take_drop, List.drop_zero, Nat.sub_zero]
  exact (List.take_eq_take_iff).2 (by simp [Nat.min_comm])
theorem ret_s {a b : ByteArray} (h : a = b) : Ending.returned (.string a) = .returned (.string b) := by rw [h]
theorem wrap8 (x : Int) (h : 0 ≤ x) (h2 : x < 256) : IntKind.u8.wrap x = x := by
  unfold IntKind.wrap
  simp [IntKind.signed, IntKind.bits]
  omega
set_option maxRecDepth 100000 in
set_option maxHeartbeats 1000000 in
theorem lower_call (l : List UInt8) (w : World) (hs : l.length < 9223372036854775808) :
    Calls Tryz.prog 33 #[.string (mk l)] w fun e w' => e = .returned (.string (mk (l.map low))) ∧ Below w.heap.size w w' := by
  obtain ⟨cap, w0, hconv, hrow, hbel⟩ := conv_in l w
  have H0 := hid_of hrow
  have HB0 := hid_of hbel
  clear hrow hbel
  obtain ⟨N, HN⟩ : ∃ N, Hid (N = l.length) := ⟨_, hid_of rfl⟩
  rw [← HN.out] at hconv
  have hN : N < 9223372036854775808 := by rw [HN.out]; exact hs
  clear hs
  generalize mk l = S at *
  go_enter Tryz.func33, Tryz.ntmps33
  go_wp2
  clear hconv
  go_loopg [10] N (fun g s4 wx => ∃ k : Nat, k ≤ N ∧ N ≤ k + g ∧ s4 = .int .i64 k ∧ Hid (BRow wx w.heap.size (part low l k)) ∧ Hid (Below w.heap.size w wx))
  case atStart => exact ⟨0, by omega, by omega, rfl, by show BRow _ _ _; rw [part_zero]; exact H0.out, HB0⟩
  case round =>
    clear H0 HB0
    obtain ⟨k, hk, hg, rfl, HR, HB⟩ := hrel
    by_cases hlt : k < N
    · obtain ⟨g', rfl⟩ : ∃ g', gk = g' + 1 := ⟨gk - 1, by omega⟩
      have hll : k < l.length := by rw [← HN.out]; exact hlt
      have hl : k < (part low l k).length := by rw [part_len]; exact hll
      have hc := HR.out.cell k hl
      have hf := HR.out.frozen k hl
      rw [part_at low l k hll hl] at hc
      have HX := hid_of (part_next low l k hll)
      have HS := hid_of (part_same low l k hll)
      obtain ⟨c, hcc⟩ : ∃ c, c = (l[k]'hll) := ⟨_, rfl⟩
      rw [← hcc] at hc HX HS
      have w1 : IntKind.i64.wrap ((k : Int) + 1) = (k : Int) + 1 := IntWalk.i64_in _ (by omega)
      have b1 : c.toNat < 256 := c.toNat_lt
      clear hcc hll hl
      by_cases h1 : 65 ≤ c.toNat
      · have t1 : decide ((65 : Int) ≤ (c.toNat : Int)) = true := by simp; omega
        by_cases h2 : c.toNat ≤ 90
        · have t2 : decide ((c.toNat : Int) ≤ 90) = true := by simp; omega
          have w2 : IntKind.u8.wrap ((c.toNat : Int) - 65) = (c.toNat : Int) - 65 := wrap8 _ (by omega) (by omega)
          have w3 : IntKind.u8.wrap ((c.toNat : Int) - 65 + 97) = (c.toNat : Int) + 32 := by rw [wrap8 _ (by omega) (by omega)]; omega
          have w4 : IntKind.u8.wrap ((c.toNat : Int) + 32) = (c.toNat : Int) + 32 := wrap8 _ (by omega) (by omega)
          have HL := hid_of (low_yes h1 h2)
          go_wp2
          go_roundg g'
          case measure => omega
          case rel => exact ⟨k + 1, by omega, by omega, by simp, by show BRow _ _ _; rw [← HX.out]; exact HR.out.put k _ (by exact HL.out.symm), HB.out.setCell (Nat.le_refl _) _⟩
        · have t2 : decide ((c.toNat : Int) ≤ 90) = false := by simp; omega
          have HL := hid_of (low_no (c := c) (by omega))
          go_wp2
          go_roundg g'
          case measure => omega
          case rel => exact ⟨k + 1, by omega, by omega, by simp, by show BRow _ _ _; rw [← HS.out (HL.out)]; exact HR.out, HB⟩
      · have t1 : decide ((65 : Int) ≤ (c.toNat : Int)) = false := by simp; omega
        have HL := hid_of (low_no (c := c) (by omega))
        go_wp2
        go_roundg g'
        case measure => omega
        case rel => exact ⟨k + 1, by omega, by omega, by simp, by show BRow _ _ _; rw [← HS.out (HL.out)]; exact HR.out, HB⟩
    · have hcv := conv_out (cap := cap) (n := N) HR.out (by rw [part_len]; exact HN.out)
      have HP := hid_of (part_all low l k (by have := HN.out; omega))
      have d1 : ¬ (k : Int) < (N : Int) := by omega
      go_wp2
      go_ret
      exact ⟨ret_s (by rw [HP.out]; try rw [List.map_take]), HB.out⟩
set_option maxRecDepth 100000 in
set_option maxHeartbeats 1000000 in
theorem rlower_call (l : List UInt8) (w : World) (hs : l.length < 9223372036854775808) :
    Calls Tryz.prog 17 #[.string (mk l)] w fun e w' => e = .returned (.string (mk (l.map low))) ∧ Below w.heap.size w w' := by
  obtain ⟨cap, w0, hconv, hrow, hbel⟩ := conv_in l w
  have H0 := hid_of hrow
  have HB0 := hid_of hbel
  clear hrow hbel
  obtain ⟨N, HN⟩ : ∃ N, Hid (N = l.length) := ⟨_, hid_of rfl⟩
  rw [← HN.out] at hconv
  have hN : N < 9223372036854775808 := by rw [HN.out]; exact hs
  clear hs
  generalize mk l = S at *
  go_enter Tryz.func17, Tryz.ntmps17
  go_wp2
  clear hconv
  go_loopg [4] N (fun g s4 wx => ∃ k : Nat, k ≤ N ∧ N ≤ k + g ∧ s4 = .int .i64 k ∧ Hid (BRow wx w.heap.size (part low l k)) ∧ Hid (Below w.heap.size w wx))
  case atStart => exact ⟨0, by omega, by omega, rfl, by show BRow _ _ _; rw [part_zero]; exact H0.out, HB0⟩
  case round =>
    clear H0 HB0
    obtain ⟨k, hk, hg, rfl, HR, HB⟩ := hrel
    by_cases hlt : k < N
    · obtain ⟨g', rfl⟩ : ∃ g', gk = g' + 1 := ⟨gk - 1, by omega⟩
      have hll : k < l.length := by rw [← HN.out]; exact hlt
      have hl : k < (part low l k).length := by rw [part_len]; exact hll
      have hc := HR.out.cell k hl
      have hf := HR.out.frozen k hl
      rw [part_at low l k hll hl] at hc
      have HX := hid_of (part_next low l k hll)
      have HS := hid_of (part_same low l k hll)
      obtain ⟨c, hcc⟩ : ∃ c, c = (l[k]'hll) := ⟨_, rfl⟩
      rw [← hcc] at hc HX HS
      have w1 : IntKind.i64.wrap ((k : Int) + 1) = (k : Int) + 1 := IntWalk.i64_in _ (by omega)
      have b1 : c.toNat < 256 := c.toNat_lt
      clear hcc hll hl
      by_cases h1 : 65 ≤ c.toNat
      · have t1 : decide ((65 : Int) ≤ (c.toNat : Int)) = true := by simp; omega
        by_cases h2 : c.toNat ≤ 90
        · have t2 : decide ((c.toNat : Int) ≤ 90) = true := by simp; omega
          have w2 : IntKind.u8.wrap ((c.toNat : Int) - 65) = (c.toNat : Int) - 65 := wrap8 _ (by omega) (by omega)
          have w3 : IntKind.u8.wrap ((c.toNat : Int) - 65 + 97) = (c.toNat : Int) + 32 := by rw [wrap8 _ (by omega) (by omega)]; omega
          have w4 : IntKind.u8.wrap ((c.toNat : Int) + 32) = (c.toNat : Int) + 32 := wrap8 _ (by omega) (by omega)
          have HL := hid_of (low_yes h1 h2)
          go_wp2
          go_roundg g'
          case measure => omega
          case rel => exact ⟨k + 1, by omega, by omega, by simp, by show BRow _ _ _; rw [← HX.out]; exact HR.out.put k _ (by exact HL.out.symm), HB.out.setCell (Nat.le_refl _) _⟩
        · have t2 : decide ((c.toNat : Int) ≤ 90) = false := by simp; omega
          have HL := hid_of (low_no (c := c) (by omega))
          go_wp2
          go_roundg g'
          case measure => omega
          case rel => exact ⟨k + 1, by omega, by omega, by simp, by show BRow _ _ _; rw [← HS.out (HL.out)]; exact HR.out, HB⟩
      · have t1 : decide ((65 : Int) ≤ (c.toNat : Int)) = false := by simp; omega
        have HL := hid_of (low_no (c := c) (by omega))
        go_wp2
        go_roundg g'
        case measure => omega
        case rel => exact ⟨k + 1, by omega, by omega, by simp, by show BRow _ _ _; rw [← HS.out (HL.out)]; exact HR.out, HB⟩
    · have hcv := conv_out (cap := cap) (n := N) HR.out (by rw [part_len]; exact HN.out)
      have HP := hid_of (part_all low l k (by have := HN.out; omega))
      have d1 : ¬ (k : Int) < (N : Int) := by omega
      go_wp2
      go_ret
      exact ⟨ret_s (by rw [HP.out]; try rw [List.map_take]), HB.out⟩
set_option maxRecDepth 100000 in
set_option maxHeartbeats 1000000 in
theorem shown_call (l : List UInt8) (w : World) (hs : l.length < 9223372036854775808) :
    Calls Tryz.prog 84 #[.string (mk l)] w fun e w' => e = .returned (.string (mk ((l.take 32).map vis))) ∧ Below w.heap.size w w' := by
  obtain ⟨M, hM⟩ : ∃ M : Nat, M = min l.length 32 := ⟨_, rfl⟩
  have hs2 : (l.take 32).length < 9223372036854775808 := by rw [List.length_take]; omega
  have hz : (mk l).size = l.length := mk_size l
  have hcut : (Instr.slice 9 (.string (mk l)) none (some (.int .i64 (min (l.length : Int) 32))) none).run Tryz.prog w = .ok (.string (mk (l.take 32))) w := by
    have h1 : (min (l.length : Int) 32) = ((min l.length 32 : Nat) : Int) := by omega
    have h2 : ((min l.length 32 : Nat) : Int) ≤ (l.length : Int) := by omega
    rw [h1]
    simp [Instr.slice, run_underlying Tryz.underlying9, Instr.sliceBounds, run_sliceBound, hz, h2]
    exact cut32 l
  obtain ⟨K, HK⟩ : ∃ K, Hid (K = l.length) := ⟨_, hid_of rfl⟩
  rw [← HK.out] at hz hcut
  obtain ⟨cap, w0, hconv, hrow, hbel⟩ := conv_in (l.take 32) w
  have H0 := hid_of hrow
  have HB0 := hid_of hbel
  clear hrow hbel
  obtain ⟨N, HN⟩ : ∃ N, Hid (N = (l.take 32).length) := ⟨_, hid_of rfl⟩
  rw [← HN.out] at hconv
  have hN : N < 9223372036854775808 := by rw [HN.out]; exact hs2
  clear hs hs2
  generalize mk l = S at *
  go_enter Tryz.func84, Tryz.ntmps84
  go_wp2
  clear hconv
  go_loopg [14] N (fun g s4 wx => ∃ k : Nat, k ≤ N ∧ N ≤ k + g ∧ s4 = .int .i64 k ∧ Hid (BRow wx w.heap.size (part vis (l.take 32) k)) ∧ Hid (Below w.heap.size w wx))
  case atStart => exact ⟨0, by omega, by omega, rfl, by show BRow _ _ _; rw [part_zero]; exact H0.out, HB0⟩
  case round =>
    clear H0 HB0
    obtain ⟨k, hk, hg, rfl, HR, HB⟩ := hrel
    by_cases hlt : k < N
    · obtain ⟨g', rfl⟩ : ∃ g', gk = g' + 1 := ⟨gk - 1, by omega⟩
      have hll : k < (l.take 32).length := by rw [← HN.out]; exact hlt
      have hl : k < (part vis (l.take 32) k).length := by rw [part_len]; exact hll
      have hc := HR.out.cell k hl
      have hf := HR.out.frozen k hl
      rw [part_at vis (l.take 32) k hll hl] at hc
      have HX := hid_of (part_next vis (l.take 32) k hll)
      have HS := hid_of (part_same vis (l.take 32) k hll)
      obtain ⟨c, hcc⟩ : ∃ c, c = ((l.take 32)[k]'hll) := ⟨_, rfl⟩
      rw [← hcc] at hc HX HS
      have w1 : IntKind.i64.wrap ((k : Int) + 1) = (k : Int) + 1 := IntWalk.i64_in _ (by omega)
      have b1 : c.toNat < 256 := c.toNat_lt
      clear hcc hll hl
      by_cases h1 : c.toNat < 32
      · have t1 : decide ((c.toNat : Int) < 32) = true := by simp; omega
        have HL := hid_of (vis_yes (c := c) (.inl h1))
        go_wp2
        go_roundg g'
        case measure => omega
        case rel => exact ⟨k + 1, by omega, by omega, by simp, by show BRow _ _ _; rw [← HX.out]; exact HR.out.put k _ (by rw [HL.out]; rfl), HB.out.setCell (Nat.le_refl _) _⟩
      · have t1 : decide ((c.toNat : Int) < 32) = false := by simp; omega
        by_cases h2 : 126 < c.toNat
        · have t2 : decide (126 < (c.toNat : Int)) = true := by simp; omega
          have HL := hid_of (vis_yes (c := c) (.inr h2))
          go_wp2
          go_roundg g'
          case measure => omega
          case rel => exact ⟨k + 1, by omega, by omega, by simp, by show BRow _ _ _; rw [← HX.out]; exact HR.out.put k _ (by rw [HL.out]; rfl), HB.out.setCell (Nat.le_refl _) _⟩
        · have t2 : decide (126 < (c.toNat : Int)) = false := by simp; omega
          have HL := hid_of (vis_no (c := c) (by omega))
          go_wp2
          go_roundg g'
          case measure => omega
          case rel => exact ⟨k + 1, by omega, by omega, by simp, by show BRow _ _ _; rw [← HS.out (HL.out)]; exact HR.out, HB⟩
    · have hcv := conv_out (cap := cap) (n := N) HR.out (by rw [part_len]; exact HN.out)
      have HP := hid_of (part_all vis (l.take 32) k (by have := HN.out; omega))
      have d1 : ¬ (k : Int) < (N : Int) := by omega
      go_wp2
      go_ret
      exact ⟨ret_s (by rw [HP.out]; try rw [List.map_take]), HB.out⟩
end Go.Proofs.YtcgdnpcegcmboaaGreatDoor.Low
end
section
namespace Go.Proofs.YtcgdnpcegcmboaaGreatDoor.RowsL
open Go.RowKit
open Go.Proofs.YtcgdnpcegcmboaaGreatDoor.Tab
open Go.Proofs.YtcgdnpcegcmboaaGreatDoor.Base
open Go.Proofs.YtcgdnpcegcmboaaGreatDoor.Run
open Go.Proofs.YtcgdnpcegcmboaaGreatDoor.Lit
set_option linter.unusedVariables false
set_option linter.unusedSimpArgs false
def cellsS (r : Sc) : List Value := [.string (mk r.name), .int .i64 r.arity, .bool r.wr, .bool r.ct, .int .i64 r.first, .int .i64 r.last, .int .i64 r.step]
def valS (r : Sc) : Value := .agg (cellsS r).toArray
def frame (k : Nat) : Act := ⟨(Value.slice none 0 0 :: ((docRows.take k).map valS ++ List.replicate (119 - k) undef)).toArray, []⟩
theorem evs : (parts 118 1).map (fun x => (x.1, (frame 118).eval x.2)) = ((docRows.map valS).zipIdx 0).map fun x => (x.2, x.1) := by kernel_rfl
theorem info : (Tryz.prog.info? 108).map (fun i => (i.zero.map (·.cells.size), i.size)) = some (some 7, 7) := by kernel_rfl
theorem sizes : (docRows.map valS).all (fun v => v.cells.size == 7) = true := by kernel_rfl
def last (w : World) : Act := ⟨(((Value.slice none 0 0) :: docRows.map valS) ++ [Value.slice (some ⟨w.heap.size, 0, none⟩) 118 118]).toArray, []⟩
def last2 (w : World) : Act := ⟨((Value.slice (some ⟨w.heap.size, 0, none⟩) 118 118 :: docRows.map valS) ++ [Value.slice (some ⟨w.heap.size, 0, none⟩) 118 118]).toArray, []⟩
def docCells : Array Value := ((docRows.map valS).flatMap fun v => v.cells.toList).toArray
end Go.Proofs.YtcgdnpcegcmboaaGreatDoor.RowsL
end
