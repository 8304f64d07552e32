/- rows: all rows, as an iterator. -/
import Derived.Test.YtgmnmcaclpfknaaThr
namespace Go.Proofs.Ytgmnmcaclpfknaa.IterR
open Go.RowKit
open Go.Proofs.Ytgmnmcaclpfknaa.Tab
open Go.Proofs.Ytgmnmcaclpfknaa.Base
open Go.Proofs.Ytgmnmcaclpfknaa.Sect
open Go.Proofs.Ytgmnmcaclpfknaa.Range
open Go.Proofs.Ytgmnmcaclpfknaa.Thr
attribute [local go_sem] Oper.semAt_some
set_option linter.unusedVariables false
set_option linter.unusedSimpArgs false
def SecE (J Jx : List Rw → World → Prop) (p l : List Rw) (e : Ending) (W' : World) : Prop := ∃ b, e = .returned (.bool b) ∧ ((b = true ∧ J (p ++ l) W') ∨ (b = false ∧ ∃ k, k < l.length ∧ Jx (p ++ l.take (k + 1)) W'))
theorem s_controlRows {n L : Nat} {J Jx : List Rw → World → Prop} (hJ : ∀ s A A', J s A → Below A.heap.size A A' → J s A')
    (hY : ∀ pre x W1, J pre W1 → pre.length < 118 → YieldAt Fence.wide (n - 1) Try.prog L #[valR x] W1 fun e W' => (e = .returned (.bool true) ∧ J (pre ++ [x]) W' ∧ Kp W1 W') ∨ (e = .returned (.bool false) ∧ Jx (pre ++ [x]) W')) (p : List Rw) (W : World) (h0 : J p W) (hp : p.length + 7 ≤ 118) : Calls Try.prog 27 #[.func (.yield L) #[] #[]] W (SecE J Jx p controlRows) :=
  controlRows.call _ W _ (through_call (n := n) (l := controlRows) (by decide) (heap_alloc_new W _) hJ hY (hJ _ _ _ h0 ((Below.refl _ W).alloc (Nat.le_refl _) _)) (by rw [show controlRows.length = 7 from rfl]; exact hp))
theorem s_stringRows {n L : Nat} {J Jx : List Rw → World → Prop} (hJ : ∀ s A A', J s A → Below A.heap.size A A' → J s A')
    (hY : ∀ pre x W1, J pre W1 → pre.length < 118 → YieldAt Fence.wide (n - 1) Try.prog L #[valR x] W1 fun e W' => (e = .returned (.bool true) ∧ J (pre ++ [x]) W' ∧ Kp W1 W') ∨ (e = .returned (.bool false) ∧ Jx (pre ++ [x]) W')) (p : List Rw) (W : World) (h0 : J p W) (hp : p.length + 24 ≤ 118) : Calls Try.prog 28 #[.func (.yield L) #[] #[]] W (SecE J Jx p stringRows) :=
  stringRows.call _ W _ (through_call (n := n) (l := stringRows) (by decide) (heap_alloc_new W _) hJ hY (hJ _ _ _ h0 ((Below.refl _ W).alloc (Nat.le_refl _) _)) (by rw [show stringRows.length = 24 from rfl]; exact hp))
theorem s_keyRows {n L : Nat} {J Jx : List Rw → World → Prop} (hJ : ∀ s A A', J s A → Below A.heap.size A A' → J s A')
    (hY : ∀ pre x W1, J pre W1 → pre.length < 118 → YieldAt Fence.wide (n - 1) Try.prog L #[valR x] W1 fun e W' => (e = .returned (.bool true) ∧ J (pre ++ [x]) W' ∧ Kp W1 W') ∨ (e = .returned (.bool false) ∧ Jx (pre ++ [x]) W')) (p : List Rw) (W : World) (h0 : J p W) (hp : p.length + 25 ≤ 118) : Calls Try.prog 29 #[.func (.yield L) #[] #[]] W (SecE J Jx p keyRows) :=
  keyRows.call _ W _ (through_call (n := n) (l := keyRows) (by decide) (heap_alloc_new W _) hJ hY (hJ _ _ _ h0 ((Below.refl _ W).alloc (Nat.le_refl _) _)) (by rw [show keyRows.length = 25 from rfl]; exact hp))
theorem s_listRows {n L : Nat} {J Jx : List Rw → World → Prop} (hJ : ∀ s A A', J s A → Below A.heap.size A A' → J s A')
    (hY : ∀ pre x W1, J pre W1 → pre.length < 118 → YieldAt Fence.wide (n - 1) Try.prog L #[valR x] W1 fun e W' => (e = .returned (.bool true) ∧ J (pre ++ [x]) W' ∧ Kp W1 W') ∨ (e = .returned (.bool false) ∧ Jx (pre ++ [x]) W')) (p : List Rw) (W : World) (h0 : J p W) (hp : p.length + 16 ≤ 118) : Calls Try.prog 30 #[.func (.yield L) #[] #[]] W (SecE J Jx p listRows) :=
  listRows.call _ W _ (through_call (n := n) (l := listRows) (by decide) (heap_alloc_new W _) hJ hY (hJ _ _ _ h0 ((Below.refl _ W).alloc (Nat.le_refl _) _)) (by rw [show listRows.length = 16 from rfl]; exact hp))
theorem s_hashRows {n L : Nat} {J Jx : List Rw → World → Prop} (hJ : ∀ s A A', J s A → Below A.heap.size A A' → J s A')
    (hY : ∀ pre x W1, J pre W1 → pre.length < 118 → YieldAt Fence.wide (n - 1) Try.prog L #[valR x] W1 fun e W' => (e = .returned (.bool true) ∧ J (pre ++ [x]) W' ∧ Kp W1 W') ∨ (e = .returned (.bool false) ∧ Jx (pre ++ [x]) W')) (p : List Rw) (W : World) (h0 : J p W) (hp : p.length + 14 ≤ 118) : Calls Try.prog 31 #[.func (.yield L) #[] #[]] W (SecE J Jx p hashRows) :=
  hashRows.call _ W _ (through_call (n := n) (l := hashRows) (by decide) (heap_alloc_new W _) hJ hY (hJ _ _ _ h0 ((Below.refl _ W).alloc (Nat.le_refl _) _)) (by rw [show hashRows.length = 14 from rfl]; exact hp))
theorem s_setRows {n L : Nat} {J Jx : List Rw → World → Prop} (hJ : ∀ s A A', J s A → Below A.heap.size A A' → J s A')
    (hY : ∀ pre x W1, J pre W1 → pre.length < 118 → YieldAt Fence.wide (n - 1) Try.prog L #[valR x] W1 fun e W' => (e = .returned (.bool true) ∧ J (pre ++ [x]) W' ∧ Kp W1 W') ∨ (e = .returned (.bool false) ∧ Jx (pre ++ [x]) W')) (p : List Rw) (W : World) (h0 : J p W) (hp : p.length + 15 ≤ 118) : Calls Try.prog 32 #[.func (.yield L) #[] #[]] W (SecE J Jx p setRows) :=
  setRows.call _ W _ (through_call (n := n) (l := setRows) (by decide) (heap_alloc_new W _) hJ hY (hJ _ _ _ h0 ((Below.refl _ W).alloc (Nat.le_refl _) _)) (by rw [show setRows.length = 15 from rfl]; exact hp))
theorem s_scoreRows {n L : Nat} {J Jx : List Rw → World → Prop} (hJ : ∀ s A A', J s A → Below A.heap.size A A' → J s A')
    (hY : ∀ pre x W1, J pre W1 → pre.length < 118 → YieldAt Fence.wide (n - 1) Try.prog L #[valR x] W1 fun e W' => (e = .returned (.bool true) ∧ J (pre ++ [x]) W' ∧ Kp W1 W') ∨ (e = .returned (.bool false) ∧ Jx (pre ++ [x]) W')) (p : List Rw) (W : World) (h0 : J p W) (hp : p.length + 17 ≤ 118) : Calls Try.prog 33 #[.func (.yield L) #[] #[]] W (SecE J Jx p scoreRows) :=
  scoreRows.call _ W _ (through_call (n := n) (l := scoreRows) (by decide) (heap_alloc_new W _) hJ hY (hJ _ _ _ h0 ((Below.refl _ W).alloc (Nat.le_refl _) _)) (by rw [show scoreRows.length = 17 from rfl]; exact hp))
theorem pre_of {p l r : List Rw} {k : Nat} (h : p ++ l ++ r = allRows) : p ++ l.take k <+: allRows := ⟨l.drop k ++ r, by rw [← h, List.append_assoc, ← List.append_assoc (l.take k), List.take_append_drop, ← List.append_assoc]⟩
set_option maxHeartbeats 4000000 in
set_option maxRecDepth 100000 in
theorem rows_pos {n L : Nat} {J Jx : List Rw → World → Prop} {W : World} (hJ : ∀ s A A', J s A → Below A.heap.size A A' → J s A')
    (hY : ∀ pre x W1, J pre W1 → pre.length < 118 → YieldAt Fence.wide (n - 1) Try.prog L #[valR x] W1 fun e W' => (e = .returned (.bool true) ∧ J (pre ++ [x]) W' ∧ Kp W1 W') ∨ (e = .returned (.bool false) ∧ Jx (pre ++ [x]) W'))
    (h0 : J [] W) : Calls Try.prog 21 #[.func (.yield L) #[] #[]] W fun e W' => (∃ v, e = .returned v) ∧ ((∃ xs, xs = allRows ∧ J xs W') ∨ ∃ pre, pre <+: allRows ∧ Jx pre W') := by
  obtain ⟨p0, P0⟩ : ∃ p0, Hid (p0 = []) := ⟨_, hid_of rfl⟩
  have HS0 : Hid (∀ W, J p0 W → Calls Try.prog 27 #[.func (.yield L) #[] #[]] W (SecE J Jx p0 controlRows)) := hid_of fun W h => s_controlRows hJ hY p0 W h (by rw [P0.out]; decide)
  obtain ⟨p1, P1⟩ : ∃ p1, Hid (p1 = controlRows) := ⟨_, hid_of rfl⟩
  have HS1 : Hid (∀ W, J p1 W → Calls Try.prog 28 #[.func (.yield L) #[] #[]] W (SecE J Jx p1 stringRows)) := hid_of fun W h => s_stringRows hJ hY p1 W h (by rw [P1.out]; decide)
  obtain ⟨p2, P2⟩ : ∃ p2, Hid (p2 = controlRows ++ stringRows) := ⟨_, hid_of rfl⟩
  have HS2 : Hid (∀ W, J p2 W → Calls Try.prog 29 #[.func (.yield L) #[] #[]] W (SecE J Jx p2 keyRows)) := hid_of fun W h => s_keyRows hJ hY p2 W h (by rw [P2.out]; decide)
  obtain ⟨p3, P3⟩ : ∃ p3, Hid (p3 = controlRows ++ stringRows ++ keyRows) := ⟨_, hid_of rfl⟩
  have HS3 : Hid (∀ W, J p3 W → Calls Try.prog 30 #[.func (.yield L) #[] #[]] W (SecE J Jx p3 listRows)) := hid_of fun W h => s_listRows hJ hY p3 W h (by rw [P3.out]; decide)
  obtain ⟨p4, P4⟩ : ∃ p4, Hid (p4 = controlRows ++ stringRows ++ keyRows ++ listRows) := ⟨_, hid_of rfl⟩
  have HS4 : Hid (∀ W, J p4 W → Calls Try.prog 31 #[.func (.yield L) #[] #[]] W (SecE J Jx p4 hashRows)) := hid_of fun W h => s_hashRows hJ hY p4 W h (by rw [P4.out]; decide)
  obtain ⟨p5, P5⟩ : ∃ p5, Hid (p5 = controlRows ++ stringRows ++ keyRows ++ listRows ++ hashRows) := ⟨_, hid_of rfl⟩
  have HS5 : Hid (∀ W, J p5 W → Calls Try.prog 32 #[.func (.yield L) #[] #[]] W (SecE J Jx p5 setRows)) := hid_of fun W h => s_setRows hJ hY p5 W h (by rw [P5.out]; decide)
  obtain ⟨p6, P6⟩ : ∃ p6, Hid (p6 = controlRows ++ stringRows ++ keyRows ++ listRows ++ hashRows ++ setRows) := ⟨_, hid_of rfl⟩
  have HS6 : Hid (∀ W, J p6 W → Calls Try.prog 33 #[.func (.yield L) #[] #[]] W (SecE J Jx p6 scoreRows)) := hid_of fun W h => s_scoreRows hJ hY p6 W h (by rw [P6.out]; decide)
  have H0 : Hid (J p0 W) := hid_of (by rw [P0.out]; exact h0)
  clear hJ hY h0
  go_enter Try.func21, Try.ntmps21
  go_wp2_with fail
  refine (HS0.out _ H0.out).mono ?_
  rintro e w1 ⟨b, rfl, (⟨rfl, h⟩ | ⟨rfl, k, hk, h⟩)⟩
  case inr =>
    have HX := hid_of h
    clear h
    go_wp2_with fail
    go_end0
    exact ⟨⟨_, rfl⟩, .inr ⟨_, pre_of (r := stringRows ++ keyRows ++ listRows ++ hashRows ++ setRows ++ scoreRows) (by rw [P0.out]; kernel_rfl), HX.out⟩⟩
  have H1 : Hid (J p1 w1) := hid_of (by rw [P1.out]; rw [P0.out] at h; exact h)
  clear h
  go_wp2_with fail
  refine (HS1.out _ H1.out).mono ?_
  rintro e w2 ⟨b, rfl, (⟨rfl, h⟩ | ⟨rfl, k, hk, h⟩)⟩
  case inr =>
    have HX := hid_of h
    clear h
    go_wp2_with fail
    go_end0
    exact ⟨⟨_, rfl⟩, .inr ⟨_, pre_of (r := keyRows ++ listRows ++ hashRows ++ setRows ++ scoreRows) (by rw [P1.out]; kernel_rfl), HX.out⟩⟩
  have H2 : Hid (J p2 w2) := hid_of (by rw [P2.out]; rw [P1.out] at h; exact h)
  clear h
  go_wp2_with fail
  refine (HS2.out _ H2.out).mono ?_
  rintro e w3 ⟨b, rfl, (⟨rfl, h⟩ | ⟨rfl, k, hk, h⟩)⟩
  case inr =>
    have HX := hid_of h
    clear h
    go_wp2_with fail
    go_end0
    exact ⟨⟨_, rfl⟩, .inr ⟨_, pre_of (r := listRows ++ hashRows ++ setRows ++ scoreRows) (by rw [P2.out]; kernel_rfl), HX.out⟩⟩
  have H3 : Hid (J p3 w3) := hid_of (by rw [P3.out]; rw [P2.out] at h; exact h)
  clear h
  go_wp2_with fail
  refine (HS3.out _ H3.out).mono ?_
  rintro e w4 ⟨b, rfl, (⟨rfl, h⟩ | ⟨rfl, k, hk, h⟩)⟩
  case inr =>
    have HX := hid_of h
    clear h
    go_wp2_with fail
    go_end0
    exact ⟨⟨_, rfl⟩, .inr ⟨_, pre_of (r := hashRows ++ setRows ++ scoreRows) (by rw [P3.out]; kernel_rfl), HX.out⟩⟩
  have H4 : Hid (J p4 w4) := hid_of (by rw [P4.out]; rw [P3.out] at h; exact h)
  clear h
  go_wp2_with fail
  refine (HS4.out _ H4.out).mono ?_
  rintro e w5 ⟨b, rfl, (⟨rfl, h⟩ | ⟨rfl, k, hk, h⟩)⟩
  case inr =>
    have HX := hid_of h
    clear h
    go_wp2_with fail
    go_end0
    exact ⟨⟨_, rfl⟩, .inr ⟨_, pre_of (r := setRows ++ scoreRows) (by rw [P4.out]; kernel_rfl), HX.out⟩⟩
  have H5 : Hid (J p5 w5) := hid_of (by rw [P5.out]; rw [P4.out] at h; exact h)
  clear h
  go_wp2_with fail
  refine (HS5.out _ H5.out).mono ?_
  rintro e w6 ⟨b, rfl, (⟨rfl, h⟩ | ⟨rfl, k, hk, h⟩)⟩
  case inr =>
    have HX := hid_of h
    clear h
    go_wp2_with fail
    go_end0
    exact ⟨⟨_, rfl⟩, .inr ⟨_, pre_of (r := scoreRows) (by rw [P5.out]; kernel_rfl), HX.out⟩⟩
  have H6 : Hid (J p6 w6) := hid_of (by rw [P6.out]; rw [P5.out] at h; exact h)
  clear h
  go_wp2_with fail
  refine (HS6.out _ H6.out).mono ?_
  rintro e w7 ⟨b, rfl, (⟨rfl, h⟩ | ⟨rfl, k, hk, h⟩)⟩
  case inr =>
    have HX := hid_of h
    clear h
    go_wp2_with fail
    go_end0
    exact ⟨⟨_, rfl⟩, .inr ⟨_, pre_of (r := []) (by rw [P6.out]; kernel_rfl), HX.out⟩⟩
  have HX : Hid (J allRows w7) := hid_of (by rw [P6.out] at h; exact h)
  clear h
  go_wp2_with fail
  go_end0
  exact ⟨⟨_, rfl⟩, .inl ⟨_, rfl, HX.out⟩⟩
theorem rows_seq (n : Nat) (w : World) : SeqR Gw n Try.prog 21 #[] (fun x => #[valR x]) Kp (fun xs => xs = allRows) (fun pre => pre <+: allRows) 118 w := fun L J Jx W hW hJ _ hY hJ0 =>
  rows_pos (n := n) (fun s A A' h b => hJ s A A' h b) hY hJ0
end Go.Proofs.Ytgmnmcaclpfknaa.IterR
