/- rows: all rows, as an iterator. The document's table in memory. Find of the program: its row, or none. Find of the program, walked. Find of the document. -/
import Derived.Test.YtminfpkigenahaaGreatDoorSectM
import Derived.Test.YtminfpkigenahaaGreatDoorKMapM
import Derived.Test.YtminfpkigenahaaGreatDoorBaseM
import Derived.Test.YtminfpkigenahaaGreatDoorGMatchM
import Derived.RangeFuncFrom
import Derived.Deep.RegionHeld3
section
namespace Go.Proofs.YtminfpkigenahaaGreatDoor.IterR
open Go.RowKit
open Go.Proofs.YtminfpkigenahaaGreatDoor.Tab
open Go.Proofs.YtminfpkigenahaaGreatDoor.Base
open Go.Proofs.YtminfpkigenahaaGreatDoor.Sect
open Go.Proofs.YtminfpkigenahaaGreatDoor.Range
open Go.Proofs.YtminfpkigenahaaGreatDoor.Thr
attribute [local go_sem] Oper.semAt_some
set_option linter.unusedVariables false
set_option linter.unusedSimpArgs false
def SecE (J Jx : List Rw → World → Prop) (p l : List Rw) (e : Ending) (W' : World) : Prop := ∃ b, e = .returned (.bool b) ∧ ((b = true ∧ J (p ++ l) W') ∨ (b = false ∧ ∃ k, k < l.length ∧ Jx (p ++ l.take (k + 1)) W'))
theorem s_controlRows {n L : Nat} {J Jx : List Rw → World → Prop} (hJ : ∀ s A A', J s A → Below A.heap.size A A' → J s A')
    (hY : ∀ pre x W1, J pre W1 → pre.length < 118 → YieldAt Fence.wide (n - 1) Tryz.prog L #[valR x] W1 fun e W' => (e = .returned (.bool true) ∧ J (pre ++ [x]) W' ∧ Kp W1 W') ∨ (e = .returned (.bool false) ∧ Jx (pre ++ [x]) W')) (p : List Rw) (W : World) (h0 : J p W) (hp : p.length + 7 ≤ 118) : Calls Tryz.prog 116 #[.func (.yield L) #[] #[]] W (SecE J Jx p controlRows) :=
  controlRows.call _ W _ (through_call (n := n) (l := controlRows) (by decide) (heap_alloc_new W _) hJ hY (hJ _ _ _ h0 ((Below.refl _ W).alloc (Nat.le_refl _) _)) (by rw [show controlRows.length = 7 from rfl]; exact hp))
theorem s_stringRows {n L : Nat} {J Jx : List Rw → World → Prop} (hJ : ∀ s A A', J s A → Below A.heap.size A A' → J s A')
    (hY : ∀ pre x W1, J pre W1 → pre.length < 118 → YieldAt Fence.wide (n - 1) Tryz.prog L #[valR x] W1 fun e W' => (e = .returned (.bool true) ∧ J (pre ++ [x]) W' ∧ Kp W1 W') ∨ (e = .returned (.bool false) ∧ Jx (pre ++ [x]) W')) (p : List Rw) (W : World) (h0 : J p W) (hp : p.length + 24 ≤ 118) : Calls Tryz.prog 117 #[.func (.yield L) #[] #[]] W (SecE J Jx p stringRows) :=
  stringRows.call _ W _ (through_call (n := n) (l := stringRows) (by decide) (heap_alloc_new W _) hJ hY (hJ _ _ _ h0 ((Below.refl _ W).alloc (Nat.le_refl _) _)) (by rw [show stringRows.length = 24 from rfl]; exact hp))
theorem s_keyRows {n L : Nat} {J Jx : List Rw → World → Prop} (hJ : ∀ s A A', J s A → Below A.heap.size A A' → J s A')
    (hY : ∀ pre x W1, J pre W1 → pre.length < 118 → YieldAt Fence.wide (n - 1) Tryz.prog L #[valR x] W1 fun e W' => (e = .returned (.bool true) ∧ J (pre ++ [x]) W' ∧ Kp W1 W') ∨ (e = .returned (.bool false) ∧ Jx (pre ++ [x]) W')) (p : List Rw) (W : World) (h0 : J p W) (hp : p.length + 25 ≤ 118) : Calls Tryz.prog 118 #[.func (.yield L) #[] #[]] W (SecE J Jx p keyRows) :=
  keyRows.call _ W _ (through_call (n := n) (l := keyRows) (by decide) (heap_alloc_new W _) hJ hY (hJ _ _ _ h0 ((Below.refl _ W).alloc (Nat.le_refl _) _)) (by rw [show keyRows.length = 25 from rfl]; exact hp))
theorem s_listRows {n L : Nat} {J Jx : List Rw → World → Prop} (hJ : ∀ s A A', J s A → Below A.heap.size A A' → J s A')
    (hY : ∀ pre x W1, J pre W1 → pre.length < 118 → YieldAt Fence.wide (n - 1) Tryz.prog L #[valR x] W1 fun e W' => (e = .returned (.bool true) ∧ J (pre ++ [x]) W' ∧ Kp W1 W') ∨ (e = .returned (.bool false) ∧ Jx (pre ++ [x]) W')) (p : List Rw) (W : World) (h0 : J p W) (hp : p.length + 16 ≤ 118) : Calls Tryz.prog 119 #[.func (.yield L) #[] #[]] W (SecE J Jx p listRows) :=
  listRows.call _ W _ (through_call (n := n) (l := listRows) (by decide) (heap_alloc_new W _) hJ hY (hJ _ _ _ h0 ((Below.refl _ W).alloc (Nat.le_refl _) _)) (by rw [show listRows.length = 16 from rfl]; exact hp))
theorem s_hashRows {n L : Nat} {J Jx : List Rw → World → Prop} (hJ : ∀ s A A', J s A → Below A.heap.size A A' → J s A')
    (hY : ∀ pre x W1, J pre W1 → pre.length < 118 → YieldAt Fence.wide (n - 1) Tryz.prog L #[valR x] W1 fun e W' => (e = .returned (.bool true) ∧ J (pre ++ [x]) W' ∧ Kp W1 W') ∨ (e = .returned (.bool false) ∧ Jx (pre ++ [x]) W')) (p : List Rw) (W : World) (h0 : J p W) (hp : p.length + 14 ≤ 118) : Calls Tryz.prog 120 #[.func (.yield L) #[] #[]] W (SecE J Jx p hashRows) :=
  hashRows.call _ W _ (through_call (n := n) (l := hashRows) (by decide) (heap_alloc_new W _) hJ hY (hJ _ _ _ h0 ((Below.refl _ W).alloc (Nat.le_refl _) _)) (by rw [show hashRows.length = 14 from rfl]; exact hp))
theorem s_setRows {n L : Nat} {J Jx : List Rw → World → Prop} (hJ : ∀ s A A', J s A → Below A.heap.size A A' → J s A')
    (hY : ∀ pre x W1, J pre W1 → pre.length < 118 → YieldAt Fence.wide (n - 1) Tryz.prog L #[valR x] W1 fun e W' => (e = .returned (.bool true) ∧ J (pre ++ [x]) W' ∧ Kp W1 W') ∨ (e = .returned (.bool false) ∧ Jx (pre ++ [x]) W')) (p : List Rw) (W : World) (h0 : J p W) (hp : p.length + 15 ≤ 118) : Calls Tryz.prog 121 #[.func (.yield L) #[] #[]] W (SecE J Jx p setRows) :=
  setRows.call _ W _ (through_call (n := n) (l := setRows) (by decide) (heap_alloc_new W _) hJ hY (hJ _ _ _ h0 ((Below.refl _ W).alloc (Nat.le_refl _) _)) (by rw [show setRows.length = 15 from rfl]; exact hp))
theorem s_scoreRows {n L : Nat} {J Jx : List Rw → World → Prop} (hJ : ∀ s A A', J s A → Below A.heap.size A A' → J s A')
    (hY : ∀ pre x W1, J pre W1 → pre.length < 118 → YieldAt Fence.wide (n - 1) Tryz.prog L #[valR x] W1 fun e W' => (e = .returned (.bool true) ∧ J (pre ++ [x]) W' ∧ Kp W1 W') ∨ (e = .returned (.bool false) ∧ Jx (pre ++ [x]) W')) (p : List Rw) (W : World) (h0 : J p W) (hp : p.length + 17 ≤ 118) : Calls Tryz.prog 122 #[.func (.yield L) #[] #[]] W (SecE J Jx p scoreRows) :=
  scoreRows.call _ W _ (through_call (n := n) (l := scoreRows) (by decide) (heap_alloc_new W _) hJ hY (hJ _ _ _ h0 ((Below.refl _ W).alloc (Nat.le_refl _) _)) (by rw [show scoreRows.length = 17 from rfl]; exact hp))
theorem pre_of {p l r : List Rw} {k : Nat} (h : p ++ l ++ r = allRows) : p ++ l.take k <+: allRows := ⟨l.drop k ++ r, by rw [← h, List.append_assoc, ← List.append_assoc (l.take k), List.take_append_drop, ← List.append_assoc]⟩
set_option maxHeartbeats 4000000 in
set_option maxRecDepth 100000 in
theorem rows_pos {n L : Nat} {J Jx : List Rw → World → Prop} {W : World} (hJ : ∀ s A A', J s A → Below A.heap.size A A' → J s A')
    (hY : ∀ pre x W1, J pre W1 → pre.length < 118 → YieldAt Fence.wide (n - 1) Tryz.prog L #[valR x] W1 fun e W' => (e = .returned (.bool true) ∧ J (pre ++ [x]) W' ∧ Kp W1 W') ∨ (e = .returned (.bool false) ∧ Jx (pre ++ [x]) W'))
    (h0 : J [] W) : Calls Tryz.prog 96 #[.func (.yield L) #[] #[]] W fun e W' => (∃ v, e = .returned v) ∧ ((∃ xs, xs = allRows ∧ J xs W') ∨ ∃ pre, pre <+: allRows ∧ Jx pre W') := by
  obtain ⟨p0, P0⟩ : ∃ p0, Hid (p0 = []) := ⟨_, hid_of rfl⟩
  have HS0 : Hid (∀ W, J p0 W → Calls Tryz.prog 116 #[.func (.yield L) #[] #[]] W (SecE J Jx p0 controlRows)) := hid_of fun W h => s_controlRows hJ hY p0 W h (by rw [P0.out]; decide)
  obtain ⟨p1, P1⟩ : ∃ p1, Hid (p1 = controlRows) := ⟨_, hid_of rfl⟩
  have HS1 : Hid (∀ W, J p1 W → Calls Tryz.prog 117 #[.func (.yield L) #[] #[]] W (SecE J Jx p1 stringRows)) := hid_of fun W h => s_stringRows hJ hY p1 W h (by rw [P1.out]; decide)
  obtain ⟨p2, P2⟩ : ∃ p2, Hid (p2 = controlRows ++ stringRows) := ⟨_, hid_of rfl⟩
  have HS2 : Hid (∀ W, J p2 W → Calls Tryz.prog 118 #[.func (.yield L) #[] #[]] W (SecE J Jx p2 keyRows)) := hid_of fun W h => s_keyRows hJ hY p2 W h (by rw [P2.out]; decide)
  obtain ⟨p3, P3⟩ : ∃ p3, Hid (p3 = controlRows ++ stringRows ++ keyRows) := ⟨_, hid_of rfl⟩
  have HS3 : Hid (∀ W, J p3 W → Calls Tryz.prog 119 #[.func (.yield L) #[] #[]] W (SecE J Jx p3 listRows)) := hid_of fun W h => s_listRows hJ hY p3 W h (by rw [P3.out]; decide)
  obtain ⟨p4, P4⟩ : ∃ p4, Hid (p4 = controlRows ++ stringRows ++ keyRows ++ listRows) := ⟨_, hid_of rfl⟩
  have HS4 : Hid (∀ W, J p4 W → Calls Tryz.prog 120 #[.func (.yield L) #[] #[]] W (SecE J Jx p4 hashRows)) := hid_of fun W h => s_hashRows hJ hY p4 W h (by rw [P4.out]; decide)
  obtain ⟨p5, P5⟩ : ∃ p5, Hid (p5 = controlRows ++ stringRows ++ keyRows ++ listRows ++ hashRows) := ⟨_, hid_of rfl⟩
  have HS5 : Hid (∀ W, J p5 W → Calls Tryz.prog 121 #[.func (.yield L) #[] #[]] W (SecE J Jx p5 setRows)) := hid_of fun W h => s_setRows hJ hY p5 W h (by rw [P5.out]; decide)
  obtain ⟨p6, P6⟩ : ∃ p6, Hid (p6 = controlRows ++ stringRows ++ keyRows ++ listRows ++ hashRows ++ setRows) := ⟨_, hid_of rfl⟩
  have HS6 : Hid (∀ W, J p6 W → Calls Tryz.prog 122 #[.func (.yield L) #[] #[]] W (SecE J Jx p6 scoreRows)) := hid_of fun W h => s_scoreRows hJ hY p6 W h (by rw [P6.out]; decide)
  have H0 : Hid (J p0 W) := hid_of (by rw [P0.out]; exact h0)
  clear hJ hY h0
  go_enter Tryz.func96, Tryz.ntmps96
  go_wp2_with fail
  refine (HS0.out _ H0.out).mono ?_
  rintro e w1 ⟨b, rfl, (⟨rfl, h⟩ | ⟨rfl, k, hk, h⟩)⟩
  case inr =>
    have HX := hid_of h
    clear h
    go_wp2_with fail
    go_end0
    exact ⟨⟨_, rfl⟩, .inr ⟨_, pre_of (r := stringRows ++ keyRows ++ listRows ++ hashRows ++ setRows ++ scoreRows) (by rw [P0.out]; kernel_rfl), HX.out⟩⟩
  have H1 : Hid (J p1 w1) := hid_of (by rw [P1.out]; rw [P0.out] at h; exact h)
  clear h
  go_wp2_with fail
  refine (HS1.out _ H1.out).mono ?_
  rintro e w2 ⟨b, rfl, (⟨rfl, h⟩ | ⟨rfl, k, hk, h⟩)⟩
  case inr =>
    have HX := hid_of h
    clear h
    go_wp2_with fail
    go_end0
    exact ⟨⟨_, rfl⟩, .inr ⟨_, pre_of (r := keyRows ++ listRows ++ hashRows ++ setRows ++ scoreRows) (by rw [P1.out]; kernel_rfl), HX.out⟩⟩
  have H2 : Hid (J p2 w2) := hid_of (by rw [P2.out]; rw [P1.out] at h; exact h)
  clear h
  go_wp2_with fail
  refine (HS2.out _ H2.out).mono ?_
  rintro e w3 ⟨b, rfl, (⟨rfl, h⟩ | ⟨rfl, k, hk, h⟩)⟩
  case inr =>
    have HX := hid_of h
    clear h
    go_wp2_with fail
    go_end0
    exact ⟨⟨_, rfl⟩, .inr ⟨_, pre_of (r := listRows ++ hashRows ++ setRows ++ scoreRows) (by rw [P2.out]; kernel_rfl), HX.out⟩⟩
  have H3 : Hid (J p3 w3) := hid_of (by rw [P3.out]; rw [P2.out] at h; exact h)
  clear h
  go_wp2_with fail
  refine (HS3.out _ H3.out).mono ?_
  rintro e w4 ⟨b, rfl, (⟨rfl, h⟩ | ⟨rfl, k, hk, h⟩)⟩
  case inr =>
    have HX := hid_of h
    clear h
    go_wp2_with fail
    go_end0
    exact ⟨⟨_, rfl⟩, .inr ⟨_, pre_of (r := hashRows ++ setRows ++ scoreRows) (by rw [P3.out]; kernel_rfl), HX.out⟩⟩
  have H4 : Hid (J p4 w4) := hid_of (by rw [P4.out]; rw [P3.out] at h; exact h)
  clear h
  go_wp2_with fail
  refine (HS4.out _ H4.out).mono ?_
  rintro e w5 ⟨b, rfl, (⟨rfl, h⟩ | ⟨rfl, k, hk, h⟩)⟩
  case inr =>
    have HX := hid_of h
    clear h
    go_wp2_with fail
    go_end0
    exact ⟨⟨_, rfl⟩, .inr ⟨_, pre_of (r := setRows ++ scoreRows) (by rw [P4.out]; kernel_rfl), HX.out⟩⟩
  have H5 : Hid (J p5 w5) := hid_of (by rw [P5.out]; rw [P4.out] at h; exact h)
  clear h
  go_wp2_with fail
  refine (HS5.out _ H5.out).mono ?_
  rintro e w6 ⟨b, rfl, (⟨rfl, h⟩ | ⟨rfl, k, hk, h⟩)⟩
  case inr =>
    have HX := hid_of h
    clear h
    go_wp2_with fail
    go_end0
    exact ⟨⟨_, rfl⟩, .inr ⟨_, pre_of (r := scoreRows) (by rw [P5.out]; kernel_rfl), HX.out⟩⟩
  have H6 : Hid (J p6 w6) := hid_of (by rw [P6.out]; rw [P5.out] at h; exact h)
  clear h
  go_wp2_with fail
  refine (HS6.out _ H6.out).mono ?_
  rintro e w7 ⟨b, rfl, (⟨rfl, h⟩ | ⟨rfl, k, hk, h⟩)⟩
  case inr =>
    have HX := hid_of h
    clear h
    go_wp2_with fail
    go_end0
    exact ⟨⟨_, rfl⟩, .inr ⟨_, pre_of (r := []) (by rw [P6.out]; kernel_rfl), HX.out⟩⟩
  have HX : Hid (J allRows w7) := hid_of (by rw [P6.out] at h; exact h)
  clear h
  go_wp2_with fail
  go_end0
  exact ⟨⟨_, rfl⟩, .inl ⟨_, rfl, HX.out⟩⟩
theorem rows_seq (n : Nat) (w : World) : SeqR Gw n Tryz.prog 96 #[] (fun x => #[valR x]) Kp (fun xs => xs = allRows) (fun pre => pre <+: allRows) 118 w := fun L J Jx W hW hJ _ hY hJ0 =>
  rows_pos (n := n) (fun s A A' h b => hJ s A A' h b) hY hJ0
end Go.Proofs.YtminfpkigenahaaGreatDoor.IterR
end
section
namespace Go.Proofs.YtminfpkigenahaaGreatDoor.RowsL
open Go.RowKit
open Go.Proofs.YtminfpkigenahaaGreatDoor.Tab
open Go.Proofs.YtminfpkigenahaaGreatDoor.Base
open Go.Proofs.YtminfpkigenahaaGreatDoor.Run
open Go.Proofs.YtminfpkigenahaaGreatDoor.Lit
set_option linter.unusedVariables false
set_option linter.unusedSimpArgs false
def cellsS (r : Sc) : List Value := [.string (mk r.name), .int .i64 r.arity, .bool r.wr, .bool r.ct, .int .i64 r.first, .int .i64 r.last, .int .i64 r.step]
def valS (r : Sc) : Value := .agg (cellsS r).toArray
def frame (k : Nat) : Act := ⟨(Value.slice none 0 0 :: ((docRows.take k).map valS ++ List.replicate (119 - k) undef)).toArray, []⟩
theorem evs : (parts 118 1).map (fun x => (x.1, (frame 118).eval x.2)) = ((docRows.map valS).zipIdx 0).map fun x => (x.2, x.1) := by kernel_rfl
theorem info : (Tryz.prog.info? 102).map (fun i => (i.zero.map (·.cells.size), i.size)) = some (some 7, 7) := by kernel_rfl
theorem sizes : (docRows.map valS).all (fun v => v.cells.size == 7) = true := by kernel_rfl
def last (w : World) : Act := ⟨(((Value.slice none 0 0) :: docRows.map valS) ++ [Value.slice (some ⟨w.heap.size, 0, none⟩) 118 118]).toArray, []⟩
def last2 (w : World) : Act := ⟨((Value.slice (some ⟨w.heap.size, 0, none⟩) 118 118 :: docRows.map valS) ++ [Value.slice (some ⟨w.heap.size, 0, none⟩) 118 118]).toArray, []⟩
def docCells : Array Value := ((docRows.map valS).flatMap fun v => v.cells.toList).toArray
end Go.Proofs.YtminfpkigenahaaGreatDoor.RowsL
end
section
namespace Go.Proofs.YtminfpkigenahaaGreatDoor.FindP
open Go.RowKit
open Go.Proofs.YtminfpkigenahaaGreatDoor.Tab
open Go.Proofs.YtminfpkigenahaaGreatDoor.Base
open Go.Proofs.YtminfpkigenahaaGreatDoor.Sect
open Go.Proofs.YtminfpkigenahaaGreatDoor.Range
open Go.Proofs.YtminfpkigenahaaGreatDoor.Thr
open Go.Proofs.YtminfpkigenahaaGreatDoor.IterR
open Go.Proofs.YtminfpkigenahaaGreatDoor.Low
open Go.Proofs.YtminfpkigenahaaGreatDoor.RowsL (valS cellsS)
attribute [local go_sem] Oper.semAt_some
set_option linter.unusedVariables false
set_option linter.unusedSimpArgs false
def noSc : Sc := ⟨[], 0, false, false, 0, 0, 0⟩
theorem spec_call (r : Rw) (w : World) : Calls Tryz.prog 97 #[valR r] w fun e w' => e = .returned (valS (spec r)) ∧ Below w.heap.size w w' := by
  unfold valR cellsR
  show Calls Tryz.prog 97 #[.agg #[.string (mk r.name), .int .i64 r.arity, .int .i64 r.part, .int .i64 r.first, .int .i64 r.last, .int .i64 r.step]] w fun e w' => e = .returned (.agg #[.string (mk r.name), .int .i64 r.arity, .bool (r.part == 1), .bool (r.part == 2), .int .i64 r.first, .int .i64 r.last, .int .i64 r.step]) ∧ Below w.heap.size w w'
  generalize mk r.name = N
  go_enter Tryz.func97, Tryz.ntmps97
  go_wp2_with fail
  refine ⟨rfl, .agg #[.string N, .int .i64 r.arity, .bool (r.part == 1), .bool (r.part == 2), .int .i64 r.first, .int .i64 r.last, .int .i64 r.step], ?_, rfl, ((Below.refl _ w).alloc (Nat.le_refl _) _).alloc (by simp) _⟩
  simp [results, Tryz.results97, go_sem]
/- Find's own boxes: the row, whether it is one, the name in small letters -/
structure FI (w : World) (B T S : Nat) (s : Tab.Bs) (r : Sc) (b : Bool) (W : World) : Prop where
  bel : Below w.heap.size w W
  size : B ≤ W.heap.size
  t : W.heap[T]? = some (.cells (cellsS r).toArray 102 (0, 0))
  tb : W.heap[T + 1]? = some (.cells #[.bool b] 4 (0, 0))
  sm : W.heap[S]? = some (.cells #[.string (mk s)] 9 (0, 0))
  lt : T + 1 < B
  ls : S < B
  wT : w.heap.size ≤ T
  ts : S ≠ T ∧ S ≠ T + 1
section
variable {w : World} {B T S : Nat} {s : Tab.Bs} {r : Sc} {b : Bool} {W W' : World}
theorem FI.keep (h : FI w B T S s r b W) (hb : Below w.heap.size w W') (hs : W.heap.size ≤ W'.heap.size) (hk : ∀ (k : Nat) (cs : Array Value) (t : TypeId) (fz : Nat × Nat), k < B → W.heap[k]? = some (.cells cs t fz) → W'.heap[k]? = some (.cells cs t fz)) : FI w B T S s r b W' :=
  ⟨hb, Nat.le_trans h.size hs, hk _ _ _ _ (by have := h.lt; omega) h.t, hk _ _ _ _ h.lt h.tb, hk _ _ _ _ h.ls h.sm, h.lt, h.ls, h.wT, h.ts⟩
theorem FI.grown {row : Option Nat} (h : FI w B T S s r b W) (hg : W.grownBy W' row) (hr : ∀ r, row = some r → B ≤ r ∧ ∃ o : Obj, W.heap[r]? = some o ∧ o.isCells = false) : FI w B T S s r b W' :=
  h.keep (h.bel.grown hg h.bel.size (fun j hj => by have := (hr j hj).1; have := h.lt; have := h.wT; omega)) hg.size fun k cs t fz hk e => (hg.block k (lt_of e) (fun q => by have := (hr k q.symm).1; omega)).trans e
theorem FI.below (h : FI w B T S s r b W) (hb : Below W.heap.size W W') : FI w B T S s r b W' :=
  h.keep (h.bel.trans (hb.mono h.bel.size)) hb.size fun k cs t fz hk e => (hb.block k (lt_of e)).trans e
end
/- seven stores into a row's box -/
abbrev set7 (W : World) (T : Nat) (a0 a1 a2 a3 a4 a5 a6 : Value) : World := ((((((W.setCell ⟨T, 0, none⟩ a0).setCell ⟨T, 1, none⟩ a1).setCell ⟨T, 2, none⟩ a2).setCell ⟨T, 3, none⟩ a3).setCell ⟨T, 4, none⟩ a4).setCell ⟨T, 5, none⟩ a5).setCell ⟨T, 6, none⟩ a6
theorem set7_at {W : World} {T : Nat} {ty : TypeId} {fz : Nat × Nat} {cs : Array Value} (h : W.heap[T]? = some (.cells cs ty fz)) (hs : cs.size = 7) (a0 a1 a2 a3 a4 a5 a6 : Value) : (set7 W T a0 a1 a2 a3 a4 a5 a6).heap[T]? = some (.cells #[a0, a1, a2, a3, a4, a5, a6] ty fz) := by
  rw [set_at (set_at (set_at (set_at (set_at (set_at (set_at h a0) a1) a2) a3) a4) a5) a6]
  obtain ⟨l⟩ := cs
  match l, hs with
  | [b0, b1, b2, b3, b4, b5, b6], _ => simp
theorem set7_ne {W : World} {T k : Nat} (h : k ≠ T) (a0 a1 a2 a3 a4 a5 a6 : Value) : (set7 W T a0 a1 a2 a3 a4 a5 a6).heap[k]? = W.heap[k]? := by
  rw [set_ne h, set_ne h, set_ne h, set_ne h, set_ne h, set_ne h, set_ne h]
theorem set7_size {W : World} {T : Nat} (a0 a1 a2 a3 a4 a5 a6 : Value) : (set7 W T a0 a1 a2 a3 a4 a5 a6).heap.size = W.heap.size := by
  rw [size_set, size_set, size_set, size_set, size_set, size_set, size_set]
theorem set7_below {w W : World} {T : Nat} (h : Below w.heap.size w W) (hT : w.heap.size ≤ T) (a0 a1 a2 a3 a4 a5 a6 : Value) : Below w.heap.size w (set7 W T a0 a1 a2 a3 a4 a5 a6) :=
  ((((((h.setCell hT a0).setCell hT a1).setCell hT a2).setCell hT a3).setCell hT a4).setCell hT a5).setCell hT a6
theorem FI.told {w : World} {B T S : Nat} {s : Tab.Bs} {r : Sc} {b : Bool} {W : World} (h : FI w B T S s r b W) (r' : Sc) (b' : Bool) {a0 a1 a2 a3 a4 a5 a6 : Value} (ha : (cellsS r').toArray = #[a0, a1, a2, a3, a4, a5, a6]) : FI w B T S s r' b' ((set7 W T a0 a1 a2 a3 a4 a5 a6).setCell ⟨T + 1, 0, none⟩ (.bool b')) ∧ KeepsFrom B W ((set7 W T a0 a1 a2 a3 a4 a5 a6).setCell ⟨T + 1, 0, none⟩ (.bool b')) := by
  have h1 := h.lt
  refine ⟨⟨(set7_below h.bel h.wT a0 a1 a2 a3 a4 a5 a6).setCell (by have := h.wT; show _ ≤ T + 1; omega) _, by rw [size_set, set7_size]; exact h.size, ?_, ?_, ?_, h.lt, h.ls, h.wT, h.ts⟩, ⟨by rw [size_set, set7_size]; exact Nat.le_refl _, fun k o hk ho hc => ?_⟩⟩
  · rw [set_ne (by omega), set7_at h.t (by rfl), ha]
  · rw [set_at ((set7_ne (by omega) a0 a1 a2 a3 a4 a5 a6).trans h.tb)]; rfl
  · rw [set_ne (by have := h.ts; omega), set7_ne (by have := h.ts; omega)]; exact h.sm
  · rw [set_ne (by omega), set7_ne (by omega)]; exact ho
def fnd (s : Tab.Bs) : Sc × Bool := match findR s with
  | some x => (spec x, true)
  | none => (noSc, false)
theorem fnd_no {s : Tab.Bs} (h : ∀ x ∈ allRows, x.name ≠ s) : fnd s = (noSc, false) := by
  have : findR s = none := by
    unfold findR
    rw [List.find?_eq_none]
    intro x hx e
    exact h x hx (eq_of_beq e)
  unfold fnd
  rw [this]
theorem fnd_yes {s : Tab.Bs} {p : List Rw} {x : Rw} (hp : p ++ [x] <+: allRows) (hx : x.name = s) (h : ∀ y ∈ p, y.name ≠ s) : fnd s = (spec x, true) := by
  obtain ⟨r, hr⟩ := hp
  have : findR s = some x := by
    unfold findR
    rw [← hr, List.append_assoc, List.find?_append, List.find?_eq_none.2 (fun y hy e => h y hy (eq_of_beq e))]
    simp [hx]
  unfold fnd
  rw [this]
def findV (s : Tab.Bs) : Value := .tuple #[valS (fnd s).1, .bool (fnd s).2]
theorem str_no {a b : Tab.Bs} (h : a ≠ b) : ((mk a).toList == (mk b).toList) = false := by rw [str_eq]; exact decide_eq_false h
theorem str_yes (a : Tab.Bs) : ((mk a).toList == (mk a).toList) = true := by rw [str_eq]; exact decide_eq_true rfl
theorem cell_put {W : World} {D T : Nat} {o o' : Obj} {cs : Array Value} {t : TypeId} {fz : Nat × Nat} (hd : W.heap[D]? = some (.deferred (some []))) (h : W.heap[T]? = some (.cells cs t fz)) : (W.putObj D o').heap[T]? = some (.cells cs t fz) :=
  (World.putObj_heap_other (by rintro rfl; rw [hd] at h; cases h)).trans h
end Go.Proofs.YtminfpkigenahaaGreatDoor.FindP
end
section
namespace Go.Proofs.YtminfpkigenahaaGreatDoor.FindC
open Go.RowKit
open Go.Proofs.YtminfpkigenahaaGreatDoor.Tab
open Go.Proofs.YtminfpkigenahaaGreatDoor.Base
open Go.Proofs.YtminfpkigenahaaGreatDoor.Sect
open Go.Proofs.YtminfpkigenahaaGreatDoor.Range
open Go.Proofs.YtminfpkigenahaaGreatDoor.Thr
open Go.Proofs.YtminfpkigenahaaGreatDoor.IterR
open Go.Proofs.YtminfpkigenahaaGreatDoor.Low
open Go.Proofs.YtminfpkigenahaaGreatDoor.FindP
open Go.Proofs.YtminfpkigenahaaGreatDoor.RowsL (valS cellsS)
attribute [local go_sem] Oper.semAt_some
set_option linter.unusedVariables false
set_option linter.unusedSimpArgs false
theorem res_find {W : World} {T : Nat} {s : Tab.Bs} {r : Sc} {b : Bool} {tm : Array Value} (h1 : W.heap[T]? = some (.cells (cellsS r).toArray 102 (0, 0))) (h2 : W.heap[T + 1]? = some (.cells #[.bool b] 4 (0, 0))) (hv : fnd s = (r, b))
    (e2 : tm[2]?.getD undef = .pointer (some ⟨T, 0, none⟩) := by rfl) (e3 : tm[3]?.getD undef = .pointer (some ⟨T + 1, 0, none⟩) := by rfl) : (results Tryz.f62 tm).run Tryz.prog W = .ok (findV s) W := by
  have c0 : W.cell? ⟨T, 0, none⟩ = some (.string (mk r.name)) := Lib.cell_of_heap h1 0
  have c1 : W.cell? ⟨T, 1, none⟩ = some (.int .i64 r.arity) := Lib.cell_of_heap h1 1
  have c2 : W.cell? ⟨T, 2, none⟩ = some (.bool r.wr) := Lib.cell_of_heap h1 2
  have c3 : W.cell? ⟨T, 3, none⟩ = some (.bool r.ct) := Lib.cell_of_heap h1 3
  have c4 : W.cell? ⟨T, 4, none⟩ = some (.int .i64 r.first) := Lib.cell_of_heap h1 4
  have c5 : W.cell? ⟨T, 5, none⟩ = some (.int .i64 r.last) := Lib.cell_of_heap h1 5
  have c6 : W.cell? ⟨T, 6, none⟩ = some (.int .i64 r.step) := Lib.cell_of_heap h1 6
  have d0 : W.cell? ⟨T + 1, 0, none⟩ = some (.bool b) := Lib.cell_of_heap h2 0
  unfold findV
  rw [hv]
  unfold valS cellsS
  simp [results, Tryz.results62, go_sem, e2, e3, c0, c1, c2, c3, c4, c5, c6, d0]
theorem KeepsFrom.of_below {B : Nat} {A A' : World} (h : Below A.heap.size A A') : KeepsFrom B A A' := ⟨h.size, fun k o _ ho _ => (h.block k (lt_of ho)).trans ho⟩
set_option maxHeartbeats 4000000 in
set_option maxRecDepth 100000 in
theorem find_call (l : Tab.Bs) (w : World) (hl : l.length < 9223372036854775808) : Calls Tryz.prog 62 #[.string (mk l)] w fun e w' => e = .returned (findV (l.map low)) ∧ Below w.heap.size w w' := by
  have HL := hid_of (fun w => lower_call l w hl)
  obtain ⟨s, hs⟩ : ∃ s, s = l.map low := ⟨_, rfl⟩
  rw [← hs] at HL ⊢
  clear hl hs
  generalize mk l = L0 at *
  refine (callsIn_wide (n := 5)).1 ?_
  refine callsIn_of_wp_marks Tryz.func62 rfl trivial ?_ rfl
  simp only [Tryz.ntmps62, List.size_toArray, List.length_cons, List.length_nil, Nat.reduceAdd, Nat.reduceSub, Array.replicate_succ, Array.replicate_zero, List.push_toArray, List.append_toArray, List.nil_append, List.cons_append]
  gi_wp2_with fail
  obtain ⟨W0, hW0⟩ : ∃ W0, W0 = (w.alloc (.cells #[.string ⟨#[]⟩, .int .i64 0, .bool false, .bool false, .int .i64 0, .int .i64 0, .int .i64 0] 102)).alloc (.cells #[.bool false] 4) := ⟨_, rfl⟩
  rw [← hW0]
  refine ⟨trivial, callsIn_wide.2 ((HL.out _).mono ?_)⟩
  rintro e w1 ⟨rfl, b1⟩
  obtain ⟨T, hT⟩ : ∃ T, T = w.heap.size := ⟨_, rfl⟩
  obtain ⟨S, hS⟩ : ∃ S, S = w1.heap.size := ⟨_, rfl⟩
  obtain ⟨w2, hw2⟩ : ∃ w2, w2 = w1.alloc (.cells #[.string (mk s)] 9) := ⟨_, rfl⟩
  have z0 : W0.heap.size = T + 2 := by rw [hW0, hT]; simp
  have z2 : w2.heap.size = S + 1 := by rw [hw2, hS]; simp
  have hP : FI w (S + 1) T S s noSc false w2 := by
    have a1 : Below w.heap.size w (w.alloc (.cells #[.string ⟨#[]⟩, .int .i64 0, .bool false, .bool false, .int .i64 0, .int .i64 0, .int .i64 0] 102)) := (Below.refl _ w).alloc (Nat.le_refl _) _
    have a0 : Below w.heap.size w W0 := by rw [hW0]; exact a1.alloc a1.size _
    have b2 : Below w1.heap.size w1 w2 := by rw [hw2]; exact (Below.refl _ w1).alloc (Nat.le_refl _) _
    have s1 := b1.size
    have n0 : W0.heap[T]? = some (.cells (cellsS noSc).toArray 102 (0, 0)) := by
      rw [hW0, Below.heap_alloc _ _ _ (by rw [hT]; simp), hT]; exact heap_alloc_new w _
    have n1 : W0.heap[T + 1]? = some (.cells #[.bool false] 4 (0, 0)) := by
      rw [hW0, hT]
      have := heap_alloc_new (w.alloc (.cells #[.string ⟨#[]⟩, .int .i64 0, .bool false, .bool false, .int .i64 0, .int .i64 0, .int .i64 0] 102)) (.cells #[.bool false] 4)
      simpa using this
    have n2 : w2.heap[S]? = some (.cells #[.string (mk s)] 9 (0, 0)) := by rw [hw2, hS]; exact heap_alloc_new w1 _
    have hSS : T + 2 ≤ S := by rw [hS, ← z0]; exact s1
    refine ⟨a0.trans ((b1.mono a0.size).trans (b2.mono (Nat.le_trans a0.size s1))), by omega, ?_, ?_, n2, by omega, by omega, by omega, by omega, by omega⟩
    · rw [b2.block _ (by omega), b1.block _ (by omega)]; exact n0
    · rw [b2.block _ (by omega), b1.block _ (by omega)]; exact n1
  have HP := hid_of hP
  have HZ := hid_of z2
  have HT := hid_of hT
  rw [← hT]
  clear hP z2 hT z0 hW0 b1
  gi_wp2_with fail
  rw [← hw2, ← hS]
  clear hw2 hS
  apply range_own (n := 5) (P := Tryz.prog) (w := w2) (by decide) (gf := 96) (lb := #[]) rfl (enters_of Tryz.func96 (by kernel_rfl) rfl) (Kp := Kp) (R := Gw) (encs := fun x : Rw => #[valR x]) (S := fun xs => xs = allRows) (Sp := fun pre => pre <+: allRows) (N := 118) (w0 := w2)
    (I := fun pre W => FI w (S + 1) T S s noSc false W ∧ ∀ x ∈ pre, x.name ≠ s)
    (Ix := fun cd pre W => cd = .ret ∧ ∃ p x, pre = p ++ [x] ∧ x.name = s ∧ (∀ y ∈ p, y.name ≠ s) ∧ FI w (S + 1) T S s (spec x) true W)
    (A := fun x W => W.alloc (.cells #[.string (mk x.name), .int .i64 x.arity, .int .i64 x.part, .int .i64 x.first, .int .i64 x.last, .int .i64 x.step] 156))
  case hassign =>
    intro lp x W K hK
    unfold valR cellsR
    gi_wp2_with fail
    exact hK
  case hseq => exact rows_seq 4 w2
  case hb0 => exact Below.refl _ _
  case hps => exact fun _ => rfl
  case hRo => exact fun B A A' k o hr hk ho => (Below.block hr k (Array.getElem?_eq_some_iff.1 hk).1).trans hk
  case hKt => exact fun h k => h.trans k
  case hKb =>
    intro W k o o' hk ho hc
    refine ⟨by simp [World.putObj], fun j cs fz e => World.putObj_heap_other ?_⟩
    rintro rfl; rw [ho] at e; cases e; cases hc
  case hI => rw [HZ.out]; exact fun pre W W' row h hg hr => ⟨h.1.grown hg hr, h.2⟩
  case hIx =>
    intro cd
    rw [HZ.out]
    rintro pre W W' row ⟨e, p, x, h1, h2, h3, h4⟩ hg hr
    exact ⟨e, p, x, h1, h2, h3, h4.grown hg hr⟩
  case hIR => exact fun pre A A' h hr => ⟨h.1.below hr, h.2⟩
  case hIxR =>
    rintro cd pre A A' ⟨e, p, x, h1, h2, h3, h4⟩ hr
    exact ⟨e, p, x, h1, h2, h3, h4.below hr⟩
  case h0 => exact ⟨HP.out, by simp⟩
  case hA => exact fun x W => (Below.refl _ W).alloc (Nat.le_refl _) _
  case hAI => exact fun pre x W h => ⟨h.1.below ((Below.refl _ W).alloc (Nat.le_refl _) _), h.2⟩
  case hAK => exact fun pre x W h => Kp.of_below ((Below.refl _ W).alloc (Nat.le_refl _) _)
  case hbody =>
    rintro lp pre x W V hWs ⟨hF, hno⟩ hpl hVs hV
    have hE : V.heap[W.heap.size]? = some (.cells #[.string (mk x.name), .int .i64 x.arity, .int .i64 x.part, .int .i64 x.first, .int .i64 x.last, .int .i64 x.step] 156 (0, 0)) := (hV _ (Nat.le_refl _)).trans (heap_alloc_new W _)
    obtain ⟨E, hEE⟩ : ∃ E, E = W.heap.size := ⟨_, rfl⟩
    rw [← hEE] at hE ⊢
    have e0 : V.cell? ⟨E, 0, none⟩ = some (.string (mk x.name)) := Lib.cell_of_heap hE 0
    have e1 : V.cell? ⟨E, 1, none⟩ = some (.int .i64 x.arity) := Lib.cell_of_heap hE 1
    have e2 : V.cell? ⟨E, 2, none⟩ = some (.int .i64 x.part) := Lib.cell_of_heap hE 2
    have e3 : V.cell? ⟨E, 3, none⟩ = some (.int .i64 x.first) := Lib.cell_of_heap hE 3
    have e4 : V.cell? ⟨E, 4, none⟩ = some (.int .i64 x.last) := Lib.cell_of_heap hE 4
    have e5 : V.cell? ⟨E, 5, none⟩ = some (.int .i64 x.step) := Lib.cell_of_heap hE 5
    have cs : V.cell? ⟨S, 0, none⟩ = some (.string (mk s)) := Lib.cell_of_heap hF.sm 0
    have HF := hid_of hF
    have HNo := hid_of hno
    by_cases hx : x.name = s
    · have hc := str_yes s
      rw [hx] at e0
      have HX := hid_of hx
      have HSp := hid_of (spec_call x V)
      rw [show valR x = .agg #[.string (mk s), .int .i64 x.arity, .int .i64 x.part, .int .i64 x.first, .int .i64 x.last, .int .i64 x.step] from by rw [← hx]; rfl, show valS (spec x) = .agg #[.string (mk s), .int .i64 (spec x).arity, .bool (spec x).wr, .bool (spec x).ct, .int .i64 (spec x).first, .int .i64 (spec x).last, .int .i64 (spec x).step] from by rw [← hx]; rfl] at HSp
      clear hx hE hV hVs hEE hWs hF hno
      obtain ⟨ms, HMS⟩ : ∃ ms, Hid (ms = mk s) := ⟨_, hid_of rfl⟩
      rw [← HMS.out] at HSp e0 cs hc
      gi_wp2_with fail
      refine ⟨trivial, (CallsIn.inRound lp (callsIn_wide.2 HSp.out)).mono ?_⟩
      rintro e w5 ⟨rfl, b5⟩
      have F5 := HF.out.below b5
      have t0 : w5.cell? ⟨T, 0, none⟩ = some (.string ⟨#[]⟩) := Lib.cell_of_heap F5.t 0
      have t1 : w5.cell? ⟨T, 1, none⟩ = some (.int .i64 0) := Lib.cell_of_heap F5.t 1
      have t2 : w5.cell? ⟨T, 2, none⟩ = some (.bool false) := Lib.cell_of_heap F5.t 2
      have t3 : w5.cell? ⟨T, 3, none⟩ = some (.bool false) := Lib.cell_of_heap F5.t 3
      have t4 : w5.cell? ⟨T, 4, none⟩ = some (.int .i64 0) := Lib.cell_of_heap F5.t 4
      have t5 : w5.cell? ⟨T, 5, none⟩ = some (.int .i64 0) := Lib.cell_of_heap F5.t 5
      have t6 : w5.cell? ⟨T, 6, none⟩ = some (.int .i64 0) := Lib.cell_of_heap F5.t 6
      have f0 : w5.frozen? ⟨T, 0, none⟩ = false := Lib.frozen_of_heap F5.t 0
      have f1 : w5.frozen? ⟨T, 1, none⟩ = false := Lib.frozen_of_heap F5.t 1
      have f2 : w5.frozen? ⟨T, 2, none⟩ = false := Lib.frozen_of_heap F5.t 2
      have f3 : w5.frozen? ⟨T, 3, none⟩ = false := Lib.frozen_of_heap F5.t 3
      have f4 : w5.frozen? ⟨T, 4, none⟩ = false := Lib.frozen_of_heap F5.t 4
      have f5 : w5.frozen? ⟨T, 5, none⟩ = false := Lib.frozen_of_heap F5.t 5
      have f6 : w5.frozen? ⟨T, 6, none⟩ = false := Lib.frozen_of_heap F5.t 6
      have u0 : w5.cell? ⟨T + 1, 0, none⟩ = some (.bool false) := Lib.cell_of_heap F5.tb 0
      have v0 : w5.frozen? ⟨T + 1, 0, none⟩ = false := Lib.frozen_of_heap F5.tb 0
      have HF5 := hid_of (And.intro F5 b5)
      clear F5 b5
      gi_wp2_with fail
      obtain ⟨hq, hk⟩ := HF5.out.1.told (spec x) true rfl
      rw [show (spec x).name = s from HX.out, ← HMS.out] at hq hk
      refine ⟨by rw [HZ.out]; exact (KeepsFrom.of_below HF5.out.2).trans hk, rfl, pre, x, rfl, HX.out, HNo.out, hq⟩
    · have hc := str_no hx
      have HX := hid_of hx
      clear hx hE hV hVs hEE hWs hF hno
      obtain ⟨ms, HMS⟩ : ∃ ms, Hid (ms = mk s) := ⟨_, hid_of rfl⟩
      rw [← HMS.out] at cs hc
      generalize mk x.name = X0 at *
      gi_wp2_with fail
      exact ⟨KeepsFrom.refl _ _, Kp.of_below (Below.refl _ _), HF.out, fun y hy => by
        rcases List.mem_append.1 hy with q | q
        · exact HNo.out y q
        · rw [List.mem_singleton.1 q]; exact HX.out⟩
  case' hdone =>
    rintro D xs W hD hxs ⟨hF, hno⟩ hdf
    have t0 : W.cell? ⟨T, 0, none⟩ = some (.string ⟨#[]⟩) := Lib.cell_of_heap hF.t 0
    have t1 : W.cell? ⟨T, 1, none⟩ = some (.int .i64 0) := Lib.cell_of_heap hF.t 1
    have t2 : W.cell? ⟨T, 2, none⟩ = some (.bool false) := Lib.cell_of_heap hF.t 2
    have t3 : W.cell? ⟨T, 3, none⟩ = some (.bool false) := Lib.cell_of_heap hF.t 3
    have t4 : W.cell? ⟨T, 4, none⟩ = some (.int .i64 0) := Lib.cell_of_heap hF.t 4
    have t5 : W.cell? ⟨T, 5, none⟩ = some (.int .i64 0) := Lib.cell_of_heap hF.t 5
    have t6 : W.cell? ⟨T, 6, none⟩ = some (.int .i64 0) := Lib.cell_of_heap hF.t 6
    have f0 : W.frozen? ⟨T, 0, none⟩ = false := Lib.frozen_of_heap hF.t 0
    have f1 : W.frozen? ⟨T, 1, none⟩ = false := Lib.frozen_of_heap hF.t 1
    have f2 : W.frozen? ⟨T, 2, none⟩ = false := Lib.frozen_of_heap hF.t 2
    have f3 : W.frozen? ⟨T, 3, none⟩ = false := Lib.frozen_of_heap hF.t 3
    have f4 : W.frozen? ⟨T, 4, none⟩ = false := Lib.frozen_of_heap hF.t 4
    have f5 : W.frozen? ⟨T, 5, none⟩ = false := Lib.frozen_of_heap hF.t 5
    have f6 : W.frozen? ⟨T, 6, none⟩ = false := Lib.frozen_of_heap hF.t 6
    have u0 : W.cell? ⟨T + 1, 0, none⟩ = some (.bool false) := Lib.cell_of_heap hF.tb 0
    have v0 : W.frozen? ⟨T + 1, 0, none⟩ = false := Lib.frozen_of_heap hF.tb 0
    obtain ⟨hq, hk⟩ := hF.told noSc false rfl
    have HQ := hid_of hq
    have HDD := hid_of (And.intro (show S + 1 ≤ D from by rw [← HZ.out]; exact hD) (show _ from hk.same D _ (by rw [← HZ.out]; exact hD) hdf rfl))
    have HV := hid_of (show fnd s = (noSc, false) from fnd_no (fun x hx => hno x (by rw [hxs]; exact hx)))
    clear hF hno hdf hD hq hk hxs
    gi_wp2_with fail
    refine ⟨by simp, .inl ⟨_, _, rfl, run_takeDeferred HDD.out.2, ?_⟩⟩
    have k1 := cell_put (o := .deferred none) (o' := .deferred none) HDD.out.2 HQ.out.t
    have k2 := cell_put (o := .deferred none) (o' := .deferred none) HDD.out.2 HQ.out.tb
    refine ⟨findV s, ?_, rfl, HQ.out.bel.grown (grownBy_putObj' _ D (.deferred none)) HQ.out.bel.size (fun j hj => by cases hj; have := HDD.out.1; have := HQ.out.lt; have := HQ.out.wT; omega)⟩
    exact res_find k1 k2 HV.out
  case' hstop =>
    rintro D cd pre W hD hpre ⟨rfl, p, x, hpx, hxs, hno, hF⟩ hdf
    gi_wp2_with fail
    refine ⟨by simp, .inl ⟨_, _, rfl, run_takeDeferred hdf, ?_⟩⟩
    have k1 := cell_put (o := .deferred none) (o' := .deferred none) hdf hF.t
    have k2 := cell_put (o := .deferred none) (o' := .deferred none) hdf hF.tb
    refine ⟨findV s, ?_, rfl, hF.bel.grown (grownBy_putObj' _ D (.deferred none)) hF.bel.size (fun j hj => by cases hj; have := HZ.out; have := hF.lt; have := hF.wT; omega)⟩
    exact res_find k1 k2 (fnd_yes (by rw [← hpx]; exact hpre) hxs hno)
end Go.Proofs.YtminfpkigenahaaGreatDoor.FindC
end
section
namespace Go.Proofs.YtminfpkigenahaaGreatDoor.RFind
open Go.RowKit
open Go.Proofs.YtminfpkigenahaaGreatDoor.Tab
open Go.Proofs.YtminfpkigenahaaGreatDoor.Base
open Go.Proofs.YtminfpkigenahaaGreatDoor.Low
open Go.Proofs.YtminfpkigenahaaGreatDoor.FindP
open Go.Proofs.YtminfpkigenahaaGreatDoor.FindC
open Go.Proofs.YtminfpkigenahaaGreatDoor.RowsL
attribute [local go_sem] Oper.semAt_some
set_option linter.unusedVariables false
set_option linter.unusedSimpArgs false
theorem flat7 (f : Sc → List Value) (h : ∀ r, (f r).length = 7) : ∀ (l : List Sc) (k j : Nat) (hk : k < l.length), j < 7 → (l.flatMap f)[k * 7 + j]? = (f l[k])[j]?
  | [], k, j, hk, _ => by simp at hk
  | r :: l, 0, j, hk, hj => by
    rw [List.flatMap_cons, List.getElem?_append_left (by rw [h]; omega)]
    simp
  | r :: l, k + 1, j, hk, hj => by
    rw [List.flatMap_cons, List.getElem?_append_right (by rw [h]; omega), h, show (k + 1) * 7 + j - 7 = k * 7 + j by omega]
    exact flat7 f h l k j (by simpa using hk) hj
theorem cells_at (k j : Nat) (hk : k < docRows.length) (hj : j < 7) : docCells[k * 7 + j]? = (cellsS docRows[k])[j]? := by
  unfold docCells
  rw [List.getElem?_toArray, List.flatMap_map]
  exact flat7 (fun r => (valS r).cells.toList) (fun r => rfl) docRows k j hk hj
theorem doc_cells {W : World} {g : Nat} (h : W.heap[g]? = some (.cells docCells 102 (0, 0))) (k : Nat) (hk : k < docRows.length) :
    W.cell? ⟨g, k * 7, none⟩ = some (.string (mk docRows[k].name)) ∧ W.cell? ⟨g, k * 7 + 1, none⟩ = some (.int .i64 docRows[k].arity) ∧ W.cell? ⟨g, k * 7 + 2, none⟩ = some (.bool docRows[k].wr) ∧ W.cell? ⟨g, k * 7 + 3, none⟩ = some (.bool docRows[k].ct) ∧ W.cell? ⟨g, k * 7 + 4, none⟩ = some (.int .i64 docRows[k].first) ∧ W.cell? ⟨g, k * 7 + 5, none⟩ = some (.int .i64 docRows[k].last) ∧ W.cell? ⟨g, k * 7 + 6, none⟩ = some (.int .i64 docRows[k].step) := by
  refine ⟨?_, ?_, ?_, ?_, ?_, ?_, ?_⟩
  · rw [Lib.cell_of_heap h]; exact cells_at k 0 hk (by omega)
  all_goals (rw [Lib.cell_of_heap h, cells_at k _ hk (by omega)]; rfl)
theorem fnd_doc (s : Tab.Bs) : fnd s = match findS s with
    | some r => (r, true)
    | none => (noSc, false) := by
  rw [← find_same]
  unfold fnd
  cases findR s <;> rfl
theorem rfnd_no {s : Tab.Bs} (h : ∀ x ∈ docRows, x.name ≠ s) : fnd s = (noSc, false) := by
  rw [fnd_doc]
  have : findS s = none := by
    unfold findS
    rw [List.find?_eq_none]
    intro x hx e
    exact h x hx (eq_of_beq e)
  rw [this]
theorem rfnd_yes {s : Tab.Bs} {k : Nat} (hk : k < docRows.length) (hx : docRows[k].name = s) (h : ∀ y ∈ docRows.take k, y.name ≠ s) : fnd s = (docRows[k], true) := by
  rw [fnd_doc]
  have : findS s = some docRows[k] := by
    have e : docRows = docRows.take k ++ docRows[k] :: docRows.drop (k + 1) := by rw [← List.drop_eq_getElem_cons hk, List.take_append_drop]
    have q : docRows.find? (fun r => r.name == s) = (docRows.take k ++ docRows[k] :: docRows.drop (k + 1)).find? (fun r => r.name == s) := congrArg _ e
    unfold findS
    rw [q, List.find?_append, List.find?_eq_none.2 (fun y hy q => h y hy (eq_of_beq q))]
    show List.find? (fun r => r.name == s) (docRows[k] :: docRows.drop (k + 1)) = _
    have hp : (docRows[k].name == s) = true := by rw [hx]; exact beq_self_eq_true s
    rw [List.find?_cons, hp]
  rw [this]
structure RI (w : World) (W : World) : Prop where
  bel : Below w.heap.size w W
  t : W.heap[w.heap.size]? = some (.cells (cellsS noSc).toArray 102 (0, 0))
  g : W.heap[w.heap.size + 1]? = some (.cells docCells 102 (0, 0))
theorem RI.below {w W W' : World} (h : RI w W) (b : Below W.heap.size W W') : RI w W' := ⟨h.bel.trans (b.mono h.bel.size), (b.block _ (lt_of h.t)).trans h.t, (b.block _ (lt_of h.g)).trans h.g⟩
end Go.Proofs.YtminfpkigenahaaGreatDoor.RFind
end
