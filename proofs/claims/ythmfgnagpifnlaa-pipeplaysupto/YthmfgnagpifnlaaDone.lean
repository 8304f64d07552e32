/- One call, whatever it answers; beginnings; the window's fit. -/
import Derived.Test.YthmfgnagpifnlaaLine
namespace Go.Proofs.Ythmfgnagpifnlaa.Done
open Go.RowKit
open Go.Proofs.Ythmfgnagpifnlaa.PipeMath
open Go.Proofs.Ythmfgnagpifnlaa.Base
open Go.Proofs.Ythmfgnagpifnlaa.Queue
open Go.Proofs.Ythmfgnagpifnlaa.Queue2
open Go.Proofs.Ythmfgnagpifnlaa.Net
open Go.Proofs.Ythmfgnagpifnlaa.Connect
open Go.Proofs.Ythmfgnagpifnlaa.Calls
open Go.Proofs.Ythmfgnagpifnlaa.Calls2
open Go.Proofs.Ythmfgnagpifnlaa.Calls3
open Go.Proofs.Ythmfgnagpifnlaa.Sure
set_option linter.unusedVariables false

set_option maxRecDepth 100000 in
theorem fit_call (c : Int) (w : World) : Calls Try.prog 8 #[.int .i64 c] w fun e w' => e = .returned (.int .i64 (if c < 1 ∨ 1048576 < c then 1 else 0)) ∧ w' = w := by
  by_cases h1 : c < 1
  · rw [if_pos (Or.inl h1)]
    go_enter Try.func8, Try.ntmps8
    go_wp2_with fail
    go_ret
    exact ⟨rfl, rfl⟩
  · by_cases h2 : 1048576 < c
    · rw [if_pos (Or.inr h2)]
      go_enter Try.func8, Try.ntmps8
      go_wp2_with fail
      go_ret
      exact ⟨rfl, rfl⟩
    · rw [if_neg (by omega)]
      go_enter Try.func8, Try.ntmps8
      go_wp2_with fail
      go_ret
      exact ⟨rfl, rfl⟩
set_option maxRecDepth 100000 in
theorem begins_yes (a c : ByteArray) (h : bs a <+: bs c) (w : World) (ha : a.size ≤ 281474976710656) (hc : c.size ≤ 281474976710656) : Calls Try.prog 16 #[.string a, .string c] w fun e w' => e = .returned (.bool true) ∧ w' = w := by
  have hl : a.size ≤ c.size := by have := h.length_le; rw [len_bs, len_bs] at this; exact this
  have hx : c.extract 0 a.size = a := of_bs (by rw [ext_take]; have := List.prefix_iff_eq_take.1 h; rw [len_bs] at this; exact this.symm)
  have hsl : ∀ W, (Instr.slice 9 (.string c) none (some (.int .i64 (a.size : Int))) none).run Try.prog W = .ok (.string a) W := fun W => by
    have := run_slice_string_to_if (P := Try.prog) (w := W) 9 c .i64 (a.size : Int) Try.underlying9
    rw [this, if_pos ⟨by omega, by omega⟩]
    show Result.ok (Value.string (c.extract 0 ((a.size : Int)).toNat)) W = _
    rw [Int.toNat_natCast, hx]
  have g1 : (a.size : Int) ≤ (c.size : Int) := by omega
  clear h hx hl
  go_enter Try.func16, Try.ntmps16
  go_wp2_with fail
  go_ret
  exact ⟨rfl, rfl⟩
/- done -/
def opV (o : Int × Int × Int) (s : ByteArray) : Value := .agg #[.int .i64 o.1, .int .i64 o.2.1, .int .i64 o.2.2, .string s]
theorem fr_up {F : Nat → Prop} {w : World} {o : Obj} {w' : World} (f : Fr (fun k => F k ∧ k < w.heap.size) (w.alloc o) w') : Fr F w w' :=
  (Fr.of_below ((Below.refl _ w).alloc (Nat.le_refl _) o)).trans (f.mono fun k hk e => Or.inl e.1)
theorem has_up {F : Nat → Prop} {b : Nat} {n : Nt} {w : World} {o : Obj} {w' : World} (q : Has (Gr (fun k => F k ∧ k < w.heap.size) (w.alloc o)) b n w') : Has (Gr F w) b n w' :=
  has_mono q fun k e => e.elim (fun e => Or.inl e.1) fun e => Or.inr (by have := e; simp at this; omega)
section
variable {F : Nat → Prop} {b : Nat} {y : Lay} {n : Nt} {w : World}
theorem kind_cases (k : Int) : k = 0 ∨ k = 1 ∨ k = 2 ∨ k = 3 ∨ k = 4 ∨ k = 5 ∨ k = 6 ∨ k = 7 ∨ k = 8 ∨ ((k == 0) = false ∧ (k == 1) = false ∧ (k == 2) = false ∧ (k == 3) = false ∧ (k == 4) = false ∧ (k == 5) = false ∧ (k == 6) = false ∧ (k == 7) = false ∧ (k == 8) = false) := by
  simp only [beq_eq_false_iff_ne]
  omega
set_option maxHeartbeats 4000000 in
set_option maxRecDepth 100000 in
theorem done_call (h : NK F b y n w) (kind conn num : Int) (s : ByteArray) (M : Nat) (hB : Big n M) (hM : M + s.size ≤ 140737488355328) :
    Calls Try.prog 14 #[ptr b, .agg #[.int .i64 kind, .int .i64 conn, .int .i64 num, .string s]] w fun e w' => e = .returned (.tuple #[.string (mk (n.gotR ⟨kind, conn, num, bs s⟩)), .string (mk (n.gotW ⟨kind, conn, num, bs s⟩))]) ∧ Has (Gr F w) b (n.did ⟨kind, conn, num, bs s⟩) w' ∧ Fr F w w' := by
  have hl := (h.low).alloc (.cells #[.int .i64 kind, .int .i64 conn, .int .i64 num, .string s] 35)
  have b1 : ∀ k, n.at conn = some k → k.sent.length ≤ 140737488355328 := fun k e => by have := (hB.at e).1; omega
  have b2 : ∀ k, n.at conn = some k → k.wrote.length ≤ 140737488355328 := fun k e => by have := (hB.at e).2; omega
  have b3 : ∀ k, n.at conn = some k → k.sent.length + s.size ≤ 140737488355328 := fun k e => by have := (hB.at e).1; omega
  have b4 : ∀ k, n.at conn = some k → k.wrote.length + s.size ≤ 140737488355328 := fun k e => by have := (hB.at e).2; omega
  rcases kind_cases kind with rfl | rfl | rfl | rfl | rfl | rfl | rfl | rfl | rfl | ⟨k0, k1, k2, k3, k4, k5, k6, k7, k8⟩
  · have H1 := hid_of (connect_call hl)
    clear h hl b1 b2 b3 b4
    go_enter Try.func14, Try.ntmps14
    go_wp2_with fail
    refine H1.out.mono ?_
    rintro e w1 ⟨rfl, h1, f1⟩
    have X := hid_of (And.intro h1 f1); clear h1 f1
    go_wp2_with fail
    go_ret2
    exact ⟨rfl, has_up X.out.1, fr_up X.out.2⟩
  · have H1 := hid_of (send_call hl conn s b3)
    clear h hl b1 b2 b3 b4
    go_enter Try.func14, Try.ntmps14
    go_wp2_with fail
    refine H1.out.mono ?_
    rintro e w1 ⟨rfl, h1, f1⟩
    have X := hid_of (And.intro h1 f1); clear h1 f1
    go_wp2_with fail
    go_ret2
    exact ⟨rfl, has_up X.out.1, fr_up X.out.2⟩
  · have H1 := hid_of (end_call hl conn)
    clear h hl b1 b2 b3 b4
    go_enter Try.func14, Try.ntmps14
    go_wp2_with fail
    refine H1.out.mono ?_
    rintro e w1 ⟨rfl, h1, f1⟩
    have X := hid_of (And.intro h1 f1); clear h1 f1
    go_wp2_with fail
    go_ret2
    exact ⟨rfl, has_up X.out.1, fr_up X.out.2⟩
  · have H1 := hid_of (take_call hl conn num b2)
    clear h hl b1 b2 b3 b4
    go_enter Try.func14, Try.ntmps14
    go_wp2_with fail
    refine H1.out.mono ?_
    rintro e w1 ⟨rfl, h1, f1⟩
    have X := hid_of (And.intro h1 f1); clear h1 f1
    go_wp2_with fail
    go_ret2
    exact ⟨rfl, has_up X.out.1, fr_up X.out.2⟩
  · have H1 := hid_of (cut_call hl conn b2)
    clear h hl b1 b2 b3 b4
    go_enter Try.func14, Try.ntmps14
    go_wp2_with fail
    refine H1.out.mono ?_
    rintro e w1 ⟨rfl, h1, f1⟩
    have X := hid_of (And.intro h1 f1); clear h1 f1
    go_wp2_with fail
    go_ret2
    exact ⟨rfl, has_up X.out.1, fr_up X.out.2⟩
  · have H1 := hid_of (accept_call hl)
    clear h hl b1 b2 b3 b4
    go_enter Try.func14, Try.ntmps14
    go_wp2_with fail
    refine H1.out.mono ?_
    rintro e w1 ⟨rfl, h1, f1⟩
    have X := hid_of (And.intro h1 f1); clear h1 f1
    go_wp2_with fail
    go_ret2
    exact ⟨rfl, ⟨_, X.out.1.mono fun _ e => Or.inl e.1⟩, fr_up X.out.2⟩
  · have H1 := hid_of (read_call hl conn num b1)
    have e1 : n.gotR ⟨6, conn, num, bs s⟩ = (n.read conn num).2.1 := rfl
    rw [e1]
    obtain ⟨T, hT⟩ : ∃ T, T = mk (n.read conn num).2.1 := ⟨_, rfl⟩
    rw [← hT] at H1 ⊢
    clear h hl b1 b2 b3 b4 e1 hT
    go_enter Try.func14, Try.ntmps14
    go_wp2_with fail
    refine H1.out.mono ?_
    rintro e w1 ⟨rfl, h1, f1⟩
    have X := hid_of (And.intro h1 f1); clear h1 f1
    go_wp2_with fail
    go_ret2
    exact ⟨rfl, has_up X.out.1, fr_up X.out.2⟩
  · have H1 := hid_of (write_call hl conn s b4 (by omega))
    have e1 : n.gotW ⟨7, conn, num, bs s⟩ = (bs s).take (n.write conn (bs s)).2.1.toNat := rfl
    have hx : ∃ x : Nat, x ≤ s.size ∧ (n.write conn (bs s)).2.1 = (x : Int) := by
      unfold Nt.write
      split
      · cases hk : n.at conn with
        | none => exact ⟨0, Nat.zero_le _, rfl⟩
        | some k => exact ⟨n.fit k (bs s), by have := fit_le n k (bs s); rw [len_bs] at this; exact this, rfl⟩
      · exact ⟨0, Nat.zero_le _, rfl⟩
    obtain ⟨x, hxs, hxe⟩ := hx
    rw [e1]
    rw [hxe] at H1 ⊢
    obtain ⟨T, hT⟩ : ∃ T, T = s.extract 0 x := ⟨_, rfl⟩
    have e2 : mk ((bs s).take ((x : Int)).toNat) = T := by rw [hT]; exact of_bs (by rw [ext_take]; rfl)
    rw [e2]
    have hsl : ∀ W, (Instr.slice 9 (.string s) none (some (.int .i64 (x : Int))) none).run Try.prog W = .ok (.string T) W := fun W => by
      have := run_slice_string_to_if (P := Try.prog) (w := W) 9 s .i64 (x : Int) Try.underlying9
      rw [this, if_pos ⟨by omega, by omega⟩, hT]
      rfl
    have g0 : ¬ ((x : Int) < 0) := by omega
    have g1 : ¬ ((s.size : Int) < (x : Int)) := by omega
    have HN : Hid ((w.alloc (.cells #[.int .i64 7, .int .i64 conn, .int .i64 num, .string s] 35)).heap[w.heap.size]? = some (.cells #[.int .i64 7, .int .i64 conn, .int .i64 num, .string s] 35 (0, 0))) := heap_alloc_new w _
    clear h hl b1 b2 b3 b4 e1 hT e2 hxe hxs
    go_enter Try.func14, Try.ntmps14
    go_wp2_with fail
    refine H1.out.mono ?_
    rintro e w1 ⟨rfl, h1, f1⟩
    have c3 : w1.cell? ⟨w.heap.size, 3, none⟩ = some (.string s) := Lib.cell_of_heap ((f1.block w.heap.size (by simp) (fun e => by have := e.2; omega)).trans HN.out) 3
    have X := hid_of (And.intro h1 f1); clear h1 f1
    go_wp2_with fail
    go_region
    go_wp2_with fail
    go_ret2
    exact ⟨rfl, like_has (has_up X.out.1) ⟨rfl, rfl, rfl, rfl⟩, (fr_up X.out.2).drew⟩
  · have H1 := hid_of (close_call hl conn)
    clear h hl b1 b2 b3 b4
    go_enter Try.func14, Try.ntmps14
    go_wp2_with fail
    refine H1.out.mono ?_
    rintro e w1 ⟨rfl, h1, f1⟩
    have X := hid_of (And.intro h1 f1); clear h1 f1
    go_wp2_with fail
    go_ret2
    exact ⟨rfl, has_up X.out.1, fr_up X.out.2⟩
  · have e1 : n.did ⟨kind, conn, num, bs s⟩ = n := by
      unfold Nt.did
      simp only [beq_eq_false_iff_ne] at k0 k1 k2 k3 k4 k5 k6 k7 k8
      simp [k0, k1, k2, k3, k4, k5, k6, k7, k8]
    have e2 : n.gotR ⟨kind, conn, num, bs s⟩ = [] := by
      unfold Nt.gotR
      simp only [beq_eq_false_iff_ne] at k6
      rw [if_neg k6]
    have e3 : n.gotW ⟨kind, conn, num, bs s⟩ = [] := by
      unfold Nt.gotW
      simp only [beq_eq_false_iff_ne] at k7
      rw [if_neg k7]
    rw [e1, e2, e3]
    have H := hid_of h
    clear h hl b1 b2 b3 b4 e1 e2 e3
    go_enter Try.func14, Try.ntmps14
    go_wp2_with fail
    go_ret2
    exact ⟨rfl, ⟨y, (H.out.alloc _).mono fun _ e => Or.inl e⟩, (Fr.refl _ _).alloc _⟩
end
end Go.Proofs.Ythmfgnagpifnlaa.Done
