/- step: one call on both. -/
import Derived.Test.YthmfgnagpifnlaaPair
namespace Go.Proofs.Ythmfgnagpifnlaa.Step
open Go.RowKit
open Go.Proofs.Ythmfgnagpifnlaa.PipeMath
open Go.Proofs.Ythmfgnagpifnlaa.Base
open Go.Proofs.Ythmfgnagpifnlaa.Queue
open Go.Proofs.Ythmfgnagpifnlaa.Queue2
open Go.Proofs.Ythmfgnagpifnlaa.Net
open Go.Proofs.Ythmfgnagpifnlaa.Connect
open Go.Proofs.Ythmfgnagpifnlaa.Calls
open Go.Proofs.Ythmfgnagpifnlaa.Calls2
open Go.Proofs.Ythmfgnagpifnlaa.Calls3
open Go.Proofs.Ythmfgnagpifnlaa.Done
open Go.Proofs.Ythmfgnagpifnlaa.RefBase
open Go.Proofs.Ythmfgnagpifnlaa.RefCalls
open Go.Proofs.Ythmfgnagpifnlaa.RefCalls2
open Go.Proofs.Ythmfgnagpifnlaa.RefCalls3
open Go.Proofs.Ythmfgnagpifnlaa.RefCalls4
open Go.Proofs.Ythmfgnagpifnlaa.Pair
set_option linter.unusedVariables false
def StepP (base a b : Nat) (n : Nt) (w0 w : World) (kind conn num : Int) (s : ByteArray) : Prop :=
  Calls Try.prog 10 #[ptr a, ptr b, .agg #[.int .i64 kind, .int .i64 conn, .int .i64 num, .string s]] w fun e w' => e = .returned (.bool true) ∧ Pr base a b (n.did ⟨kind, conn, num, bs s⟩) (n.did ⟨kind, conn, num, bs s⟩) w0 w'
section
variable {base a b : Nat} {n : Nt} {w0 w : World}
set_option maxHeartbeats 2000000 in
set_option maxRecDepth 100000 in
theorem step_connect (h : Pr base a b n n w0 w) (conn num : Int) (s : ByteArray) (M : Nat) (hB : Big n M) (hM : M + s.size ≤ 140737488355328) : StepP base a b n w0 w 0 conn num s := by
  unfold StepP
  have ok := h.okA
  have z1 : ∀ c k, n.at c = some k → k.sent.length + s.size ≤ 140737488355328 ∧ k.wrote.length + s.size ≤ 140737488355328 := fun c k e => by have := hB.at e; omega
  have hA := fun (W : World) (hl : Lk (w.alloc (.cells #[.int .i64 0, .int .i64 conn, .int .i64 num, .string s] 35)) W) => h.callA (.cells #[.int .i64 0, .int .i64 conn, .int .i64 num, .string s] 35) hl (f := 12) fun F y q => connect_call q
  have hBc := fun (W : World) (T : Pr base a b n.connect.1 n w0 W) => T.callB (f := 25) fun F lv xs q => rconnect_call q ok
  obtain ⟨x, hx⟩ : ∃ x : Int, x = n.connect.2.1 := ⟨_, rfl⟩
  rw [← hx] at hA hBc
  obtain ⟨y, hy⟩ : ∃ y : Int, y = n.connect.2.2 := ⟨_, rfl⟩
  rw [← hy] at hA hBc
  clear hx
  clear hy
  have HA := hid_of hA
  have HB := hid_of hBc
  clear h hA hBc ok z1 hB hM
  go_enter Try.func10, Try.ntmps10
  go_wp2_with fail
  refine Calls.mono (HA.out _ (by exact ⟨rfl, rfl, rfl, rfl⟩)) ?_
  rintro e w2 ⟨rfl, t2, hbx⟩
  have d0 : w2.cell? ⟨w.heap.size, 0, none⟩ = some (.int .i64 0) := Lib.cell_of_heap hbx 0
  have d1 : w2.cell? ⟨w.heap.size, 1, none⟩ = some (.int .i64 conn) := Lib.cell_of_heap hbx 1
  have d2 : w2.cell? ⟨w.heap.size, 2, none⟩ = some (.int .i64 num) := Lib.cell_of_heap hbx 2
  have d3 : w2.cell? ⟨w.heap.size, 3, none⟩ = some (.string s) := Lib.cell_of_heap hbx 3
  have T2 := hid_of t2
  clear t2 hbx
  go_wp2_with fail
  refine (HB.out _ T2.out).mono ?_
  rintro e w3 ⟨rfl, t3⟩
  have T3 := hid_of t3
  clear t3
  go_wp2_with fail
  go_ret
  exact ⟨rfl, T3.out⟩
set_option maxHeartbeats 2000000 in
set_option maxRecDepth 100000 in
theorem step_send (h : Pr base a b n n w0 w) (conn num : Int) (s : ByteArray) (M : Nat) (hB : Big n M) (hM : M + s.size ≤ 140737488355328) : StepP base a b n w0 w 1 conn num s := by
  unfold StepP
  have ok := h.okA
  have z1 : ∀ c k, n.at c = some k → k.sent.length + s.size ≤ 140737488355328 ∧ k.wrote.length + s.size ≤ 140737488355328 := fun c k e => by have := hB.at e; omega
  have hA := fun (W : World) (hl : Lk (w.alloc (.cells #[.int .i64 1, .int .i64 conn, .int .i64 num, .string s] 35)) W) => h.callA (.cells #[.int .i64 1, .int .i64 conn, .int .i64 num, .string s] 35) hl (f := 21) fun F y q => send_call q conn s fun k e => (z1 conn k e).1
  have hBc := fun (W : World) (T : Pr base a b (n.send conn (bs s)).1 n w0 W) => T.callB (f := 26) fun F lv xs q => (rsend_call q conn s fun k e => (z1 conn k e).1).mono fun _ _ e => up_has e
  obtain ⟨x, hx⟩ : ∃ x : Int, x = (n.send conn (bs s)).2 := ⟨_, rfl⟩
  rw [← hx] at hA hBc
  clear hx
  have HA := hid_of hA
  have HB := hid_of hBc
  clear h hA hBc ok z1 hB hM
  go_enter Try.func10, Try.ntmps10
  go_wp2_with fail
  go_region_with (first
    | (go_at_call 21; refine Calls.mono (HA.out _ (by exact ⟨rfl, rfl, rfl, rfl⟩)) ?_; rintro e w2 ⟨rfl, t2, hbx⟩; have d0 : w2.cell? ⟨w.heap.size, 0, none⟩ = some (.int .i64 1) := Lib.cell_of_heap hbx 0; have d1 : w2.cell? ⟨w.heap.size, 1, none⟩ = some (.int .i64 conn) := Lib.cell_of_heap hbx 1; have d2 : w2.cell? ⟨w.heap.size, 2, none⟩ = some (.int .i64 num) := Lib.cell_of_heap hbx 2; have d3 : w2.cell? ⟨w.heap.size, 3, none⟩ = some (.string s) := Lib.cell_of_heap hbx 3; have T2 := hid_of t2; clear t2 hbx)
    | (go_at_call 26; refine (HB.out _ T2.out).mono ?_; rintro e w3 ⟨rfl, t3⟩; have T3 := hid_of t3; clear t3))
  all_goals
    go_wp2_with fail
    go_ret
    exact ⟨rfl, T3.out⟩
set_option maxHeartbeats 2000000 in
set_option maxRecDepth 100000 in
theorem step_end (h : Pr base a b n n w0 w) (conn num : Int) (s : ByteArray) (M : Nat) (hB : Big n M) (hM : M + s.size ≤ 140737488355328) : StepP base a b n w0 w 2 conn num s := by
  unfold StepP
  have ok := h.okA
  have z1 : ∀ c k, n.at c = some k → k.sent.length + s.size ≤ 140737488355328 ∧ k.wrote.length + s.size ≤ 140737488355328 := fun c k e => by have := hB.at e; omega
  have hA := fun (W : World) (hl : Lk (w.alloc (.cells #[.int .i64 2, .int .i64 conn, .int .i64 num, .string s] 35)) W) => h.callA (.cells #[.int .i64 2, .int .i64 conn, .int .i64 num, .string s] 35) hl (f := 27) fun F y q => end_call q conn
  have hBc := fun (W : World) (T : Pr base a b (n.endC conn).1 n w0 W) => T.callB (f := 28) fun F lv xs q => (rend_call q conn).mono fun _ _ e => up_has e
  obtain ⟨x, hx⟩ : ∃ x : Int, x = (n.endC conn).2 := ⟨_, rfl⟩
  rw [← hx] at hA hBc
  clear hx
  have HA := hid_of hA
  have HB := hid_of hBc
  clear h hA hBc ok z1 hB hM
  go_enter Try.func10, Try.ntmps10
  go_wp2_with fail
  refine Calls.mono (HA.out _ (by exact ⟨rfl, rfl, rfl, rfl⟩)) ?_
  rintro e w2 ⟨rfl, t2, hbx⟩
  have d0 : w2.cell? ⟨w.heap.size, 0, none⟩ = some (.int .i64 2) := Lib.cell_of_heap hbx 0
  have d1 : w2.cell? ⟨w.heap.size, 1, none⟩ = some (.int .i64 conn) := Lib.cell_of_heap hbx 1
  have d2 : w2.cell? ⟨w.heap.size, 2, none⟩ = some (.int .i64 num) := Lib.cell_of_heap hbx 2
  have d3 : w2.cell? ⟨w.heap.size, 3, none⟩ = some (.string s) := Lib.cell_of_heap hbx 3
  have T2 := hid_of t2
  clear t2 hbx
  go_wp2_with fail
  refine (HB.out _ T2.out).mono ?_
  rintro e w3 ⟨rfl, t3⟩
  have T3 := hid_of t3
  clear t3
  go_wp2_with fail
  go_ret
  exact ⟨rfl, T3.out⟩
set_option maxHeartbeats 2000000 in
set_option maxRecDepth 100000 in
theorem step_take (h : Pr base a b n n w0 w) (conn num : Int) (s : ByteArray) (M : Nat) (hB : Big n M) (hM : M + s.size ≤ 140737488355328) : StepP base a b n w0 w 3 conn num s := by
  unfold StepP
  have ok := h.okA
  have z1 : ∀ c k, n.at c = some k → k.sent.length + s.size ≤ 140737488355328 ∧ k.wrote.length + s.size ≤ 140737488355328 := fun c k e => by have := hB.at e; omega
  have hA := fun (W : World) (hl : Lk (w.alloc (.cells #[.int .i64 3, .int .i64 conn, .int .i64 num, .string s] 35)) W) => h.callA (.cells #[.int .i64 3, .int .i64 conn, .int .i64 num, .string s] 35) hl (f := 24) fun F y q => take_call q conn num fun k e => by have := (z1 conn k e).2; omega
  have hBc := fun (W : World) (T : Pr base a b (n.take conn num).1 n w0 W) => T.callB (f := 29) fun F lv xs q => (rtake_call q ok conn num fun k e => by have := (z1 conn k e).2; omega).mono fun _ _ e => up_has e
  obtain ⟨x, hx⟩ : ∃ x : ByteArray, x = mk (n.take conn num).2.1 := ⟨_, rfl⟩
  rw [← hx] at hA hBc
  obtain ⟨y, hy⟩ : ∃ y : Int, y = (n.take conn num).2.2 := ⟨_, rfl⟩
  rw [← hy] at hA hBc
  clear hx
  clear hy
  have HA := hid_of hA
  have HB := hid_of hBc
  clear h hA hBc ok z1 hB hM
  go_enter Try.func10, Try.ntmps10
  go_wp2_with fail
  refine Calls.mono (HA.out _ (by exact ⟨rfl, rfl, rfl, rfl⟩)) ?_
  rintro e w2 ⟨rfl, t2, hbx⟩
  have d0 : w2.cell? ⟨w.heap.size, 0, none⟩ = some (.int .i64 3) := Lib.cell_of_heap hbx 0
  have d1 : w2.cell? ⟨w.heap.size, 1, none⟩ = some (.int .i64 conn) := Lib.cell_of_heap hbx 1
  have d2 : w2.cell? ⟨w.heap.size, 2, none⟩ = some (.int .i64 num) := Lib.cell_of_heap hbx 2
  have d3 : w2.cell? ⟨w.heap.size, 3, none⟩ = some (.string s) := Lib.cell_of_heap hbx 3
  have T2 := hid_of t2
  clear t2 hbx
  go_wp2_with fail
  refine (HB.out _ T2.out).mono ?_
  rintro e w3 ⟨rfl, t3⟩
  have T3 := hid_of t3
  clear t3
  go_wp2_with fail
  go_ret
  exact ⟨rfl, T3.out⟩
set_option maxHeartbeats 2000000 in
set_option maxRecDepth 100000 in
theorem step_cut (h : Pr base a b n n w0 w) (conn num : Int) (s : ByteArray) (M : Nat) (hB : Big n M) (hM : M + s.size ≤ 140737488355328) : StepP base a b n w0 w 4 conn num s := by
  unfold StepP
  have ok := h.okA
  have z1 : ∀ c k, n.at c = some k → k.sent.length + s.size ≤ 140737488355328 ∧ k.wrote.length + s.size ≤ 140737488355328 := fun c k e => by have := hB.at e; omega
  have hA := fun (W : World) (hl : Lk (w.alloc (.cells #[.int .i64 4, .int .i64 conn, .int .i64 num, .string s] 35)) W) => h.callA (.cells #[.int .i64 4, .int .i64 conn, .int .i64 num, .string s] 35) hl (f := 30) fun F y q => cut_call q conn fun k e => by have := (z1 conn k e).2; omega
  have hBc := fun (W : World) (T : Pr base a b (n.cutC conn).1 n w0 W) => T.callB (f := 31) fun F lv xs q => (rcut_call q ok conn).mono fun _ _ e => up_has e
  obtain ⟨x, hx⟩ : ∃ x : Int, x = (n.cutC conn).2 := ⟨_, rfl⟩
  rw [← hx] at hA hBc
  clear hx
  have HA := hid_of hA
  have HB := hid_of hBc
  clear h hA hBc ok z1 hB hM
  go_enter Try.func10, Try.ntmps10
  go_wp2_with fail
  refine Calls.mono (HA.out _ (by exact ⟨rfl, rfl, rfl, rfl⟩)) ?_
  rintro e w2 ⟨rfl, t2, hbx⟩
  have d0 : w2.cell? ⟨w.heap.size, 0, none⟩ = some (.int .i64 4) := Lib.cell_of_heap hbx 0
  have d1 : w2.cell? ⟨w.heap.size, 1, none⟩ = some (.int .i64 conn) := Lib.cell_of_heap hbx 1
  have d2 : w2.cell? ⟨w.heap.size, 2, none⟩ = some (.int .i64 num) := Lib.cell_of_heap hbx 2
  have d3 : w2.cell? ⟨w.heap.size, 3, none⟩ = some (.string s) := Lib.cell_of_heap hbx 3
  have T2 := hid_of t2
  clear t2 hbx
  go_wp2_with fail
  refine (HB.out _ T2.out).mono ?_
  rintro e w3 ⟨rfl, t3⟩
  have T3 := hid_of t3
  clear t3
  go_wp2_with fail
  go_ret
  exact ⟨rfl, T3.out⟩
set_option maxHeartbeats 2000000 in
set_option maxRecDepth 100000 in
theorem step_accept (h : Pr base a b n n w0 w) (conn num : Int) (s : ByteArray) (M : Nat) (hB : Big n M) (hM : M + s.size ≤ 140737488355328) : StepP base a b n w0 w 5 conn num s := by
  unfold StepP
  have ok := h.okA
  have z1 : ∀ c k, n.at c = some k → k.sent.length + s.size ≤ 140737488355328 ∧ k.wrote.length + s.size ≤ 140737488355328 := fun c k e => by have := hB.at e; omega
  have hA := fun (W : World) (hl : Lk (w.alloc (.cells #[.int .i64 5, .int .i64 conn, .int .i64 num, .string s] 35)) W) => h.callA (.cells #[.int .i64 5, .int .i64 conn, .int .i64 num, .string s] 35) hl (f := 19) (na' := n.accept.1) (P := fun e => e = .returned (.tuple #[.int .i64 n.accept.2.1, .bool n.accept.2.2])) fun F y q => (accept_call q).mono fun e w' e2 => ⟨e2.1, ⟨_, e2.2.1.mono fun _ e => Or.inl e⟩, e2.2.2⟩
  have hBc := fun (W : World) (T : Pr base a b n.accept.1 n w0 W) => T.callB (f := 32) fun F lv xs q => (raccept_call q ok).mono fun _ _ e => up_has e
  obtain ⟨x, hx⟩ : ∃ x : Int, x = n.accept.2.1 := ⟨_, rfl⟩
  rw [← hx] at hA hBc
  obtain ⟨y, hy⟩ : ∃ y : Bool, y = n.accept.2.2 := ⟨_, rfl⟩
  rw [← hy] at hA hBc
  clear hx
  clear hy
  have HA := hid_of hA
  have HB := hid_of hBc
  clear h hA hBc ok z1 hB hM
  go_enter Try.func10, Try.ntmps10
  go_wp2_with fail
  refine Calls.mono (HA.out _ (by exact ⟨rfl, rfl, rfl, rfl⟩)) ?_
  rintro e w2 ⟨rfl, t2, hbx⟩
  have d0 : w2.cell? ⟨w.heap.size, 0, none⟩ = some (.int .i64 5) := Lib.cell_of_heap hbx 0
  have d1 : w2.cell? ⟨w.heap.size, 1, none⟩ = some (.int .i64 conn) := Lib.cell_of_heap hbx 1
  have d2 : w2.cell? ⟨w.heap.size, 2, none⟩ = some (.int .i64 num) := Lib.cell_of_heap hbx 2
  have d3 : w2.cell? ⟨w.heap.size, 3, none⟩ = some (.string s) := Lib.cell_of_heap hbx 3
  have T2 := hid_of t2
  clear t2 hbx
  go_wp2_with fail
  refine (HB.out _ T2.out).mono ?_
  rintro e w3 ⟨rfl, t3⟩
  have T3 := hid_of t3
  clear t3
  go_wp2_with fail
  go_ret
  exact ⟨rfl, T3.out⟩
set_option maxHeartbeats 2000000 in
set_option maxRecDepth 100000 in
theorem step_read (h : Pr base a b n n w0 w) (conn num : Int) (s : ByteArray) (M : Nat) (hB : Big n M) (hM : M + s.size ≤ 140737488355328) : StepP base a b n w0 w 6 conn num s := by
  unfold StepP
  have ok := h.okA
  have z1 : ∀ c k, n.at c = some k → k.sent.length + s.size ≤ 140737488355328 ∧ k.wrote.length + s.size ≤ 140737488355328 := fun c k e => by have := hB.at e; omega
  have hA := fun (W : World) (hl : Lk (w.alloc (.cells #[.int .i64 6, .int .i64 conn, .int .i64 num, .string s] 35)) W) => h.callA (.cells #[.int .i64 6, .int .i64 conn, .int .i64 num, .string s] 35) hl (f := 22) fun F y q => read_call q conn num fun k e => by have := (z1 conn k e).1; omega
  have hBc := fun (W : World) (T : Pr base a b (n.read conn num).1 n w0 W) => T.callB (f := 33) fun F lv xs q => (rread_call q ok conn num fun k e => by have := (z1 conn k e).1; omega).mono fun _ _ e => up_has e
  obtain ⟨x, hx⟩ : ∃ x : ByteArray, x = mk (n.read conn num).2.1 := ⟨_, rfl⟩
  rw [← hx] at hA hBc
  obtain ⟨y, hy⟩ : ∃ y : Bool, y = (n.read conn num).2.2.1 := ⟨_, rfl⟩
  rw [← hy] at hA hBc
  obtain ⟨z, hz⟩ : ∃ z : Int, z = (n.read conn num).2.2.2 := ⟨_, rfl⟩
  rw [← hz] at hA hBc
  clear hx
  clear hy
  clear hz
  have HA := hid_of hA
  have HB := hid_of hBc
  clear h hA hBc ok z1 hB hM
  go_enter Try.func10, Try.ntmps10
  go_wp2_with fail
  refine Calls.mono (HA.out _ (by exact ⟨rfl, rfl, rfl, rfl⟩)) ?_
  rintro e w2 ⟨rfl, t2, hbx⟩
  have d0 : w2.cell? ⟨w.heap.size, 0, none⟩ = some (.int .i64 6) := Lib.cell_of_heap hbx 0
  have d1 : w2.cell? ⟨w.heap.size, 1, none⟩ = some (.int .i64 conn) := Lib.cell_of_heap hbx 1
  have d2 : w2.cell? ⟨w.heap.size, 2, none⟩ = some (.int .i64 num) := Lib.cell_of_heap hbx 2
  have d3 : w2.cell? ⟨w.heap.size, 3, none⟩ = some (.string s) := Lib.cell_of_heap hbx 3
  have T2 := hid_of t2
  clear t2 hbx
  go_wp2_with fail
  refine (HB.out _ T2.out).mono ?_
  rintro e w3 ⟨rfl, t3⟩
  have T3 := hid_of t3
  clear t3
  go_wp2_with fail
  go_ret
  exact ⟨rfl, T3.out⟩
set_option maxHeartbeats 2000000 in
set_option maxRecDepth 100000 in
theorem step_write (h : Pr base a b n n w0 w) (conn num : Int) (s : ByteArray) (M : Nat) (hB : Big n M) (hM : M + s.size ≤ 140737488355328) : StepP base a b n w0 w 7 conn num s := by
  unfold StepP
  have ok := h.okA
  have z1 : ∀ c k, n.at c = some k → k.sent.length + s.size ≤ 140737488355328 ∧ k.wrote.length + s.size ≤ 140737488355328 := fun c k e => by have := hB.at e; omega
  have hA := fun (W : World) (hl : Lk (w.alloc (.cells #[.int .i64 7, .int .i64 conn, .int .i64 num, .string s] 35)) W) => h.callA (.cells #[.int .i64 7, .int .i64 conn, .int .i64 num, .string s] 35) hl (f := 23) fun F y q => write_call q conn s (fun k e => (z1 conn k e).2) (by omega)
  have hBc := fun (W : World) (T : Pr base a b (n.write conn (bs s)).1 n w0 W) => T.callB (f := 34) fun F lv xs q => (rwrite_call q ok conn s (fun c k e => (z1 c k e).2) (by omega)).mono fun _ _ e => up_has e
  obtain ⟨x, hx⟩ : ∃ x : Int, x = (n.write conn (bs s)).2.1 := ⟨_, rfl⟩
  rw [← hx] at hA hBc
  obtain ⟨y, hy⟩ : ∃ y : Int, y = (n.write conn (bs s)).2.2 := ⟨_, rfl⟩
  rw [← hy] at hA hBc
  clear hx
  clear hy
  have HA := hid_of hA
  have HB := hid_of hBc
  clear h hA hBc ok z1 hB hM
  go_enter Try.func10, Try.ntmps10
  go_wp2_with fail
  refine Calls.mono (HA.out _ (by exact ⟨rfl, rfl, rfl, rfl⟩)) ?_
  rintro e w2 ⟨rfl, t2, hbx⟩
  have d0 : w2.cell? ⟨w.heap.size, 0, none⟩ = some (.int .i64 7) := Lib.cell_of_heap hbx 0
  have d1 : w2.cell? ⟨w.heap.size, 1, none⟩ = some (.int .i64 conn) := Lib.cell_of_heap hbx 1
  have d2 : w2.cell? ⟨w.heap.size, 2, none⟩ = some (.int .i64 num) := Lib.cell_of_heap hbx 2
  have d3 : w2.cell? ⟨w.heap.size, 3, none⟩ = some (.string s) := Lib.cell_of_heap hbx 3
  have T2 := hid_of t2
  clear t2 hbx
  go_wp2_with fail
  refine (HB.out _ T2.out).mono ?_
  rintro e w3 ⟨rfl, t3⟩
  have T3 := hid_of t3
  clear t3
  go_wp2_with fail
  go_ret
  exact ⟨rfl, T3.out⟩
set_option maxHeartbeats 2000000 in
set_option maxRecDepth 100000 in
theorem step_close (h : Pr base a b n n w0 w) (conn num : Int) (s : ByteArray) (M : Nat) (hB : Big n M) (hM : M + s.size ≤ 140737488355328) : StepP base a b n w0 w 8 conn num s := by
  unfold StepP
  have ok := h.okA
  have z1 : ∀ c k, n.at c = some k → k.sent.length + s.size ≤ 140737488355328 ∧ k.wrote.length + s.size ≤ 140737488355328 := fun c k e => by have := hB.at e; omega
  have hA := fun (W : World) (hl : Lk (w.alloc (.cells #[.int .i64 8, .int .i64 conn, .int .i64 num, .string s] 35)) W) => h.callA (.cells #[.int .i64 8, .int .i64 conn, .int .i64 num, .string s] 35) hl (f := 35) fun F y q => close_call q conn
  have hBc := fun (W : World) (T : Pr base a b (n.close conn).1 n w0 W) => T.callB (f := 36) fun F lv xs q => (rclose_call q conn).mono fun _ _ e => up_has e
  obtain ⟨x, hx⟩ : ∃ x : Int, x = (n.close conn).2 := ⟨_, rfl⟩
  rw [← hx] at hA hBc
  clear hx
  have HA := hid_of hA
  have HB := hid_of hBc
  clear h hA hBc ok z1 hB hM
  go_enter Try.func10, Try.ntmps10
  go_wp2_with fail
  refine Calls.mono (HA.out _ (by exact ⟨rfl, rfl, rfl, rfl⟩)) ?_
  rintro e w2 ⟨rfl, t2, hbx⟩
  have d0 : w2.cell? ⟨w.heap.size, 0, none⟩ = some (.int .i64 8) := Lib.cell_of_heap hbx 0
  have d1 : w2.cell? ⟨w.heap.size, 1, none⟩ = some (.int .i64 conn) := Lib.cell_of_heap hbx 1
  have d2 : w2.cell? ⟨w.heap.size, 2, none⟩ = some (.int .i64 num) := Lib.cell_of_heap hbx 2
  have d3 : w2.cell? ⟨w.heap.size, 3, none⟩ = some (.string s) := Lib.cell_of_heap hbx 3
  have T2 := hid_of t2
  clear t2 hbx
  go_wp2_with fail
  refine (HB.out _ T2.out).mono ?_
  rintro e w3 ⟨rfl, t3⟩
  have T3 := hid_of t3
  clear t3
  go_wp2_with fail
  go_ret
  exact ⟨rfl, T3.out⟩
set_option maxHeartbeats 2000000 in
set_option maxRecDepth 100000 in
theorem step_look (h : Pr base a b n n w0 w) (kind conn num : Int) (s : ByteArray) (M : Nat) (hB : Big n M) (hM : M + s.size ≤ 140737488355328) (k0 : (kind == 0) = false) (k1 : (kind == 1) = false) (k2 : (kind == 2) = false) (k3 : (kind == 3) = false) (k4 : (kind == 4) = false) (k5 : (kind == 5) = false) (k6 : (kind == 6) = false) (k7 : (kind == 7) = false) (k8 : (kind == 8) = false) : StepP base a b n w0 w kind conn num s := by
  unfold StepP
  have e1 : n.did ⟨kind, conn, num, bs s⟩ = n := by
    unfold Nt.did
    simp only [beq_eq_false_iff_ne] at k0 k1 k2 k3 k4 k5 k6 k7 k8
    simp [k0, k1, k2, k3, k4, k5, k6, k7, k8]
  rw [e1]
  have H1 := hid_of (look_call (h.alloc (.cells #[.int .i64 kind, .int .i64 conn, .int .i64 num, .string s] 35)) M hB (by omega) conn)
  clear h e1 hB hM
  go_enter Try.func10, Try.ntmps10
  go_wp2_with fail
  refine H1.out.mono ?_
  rintro e w2 ⟨rfl, t2⟩
  go_wp2_with fail
  go_ret
  exact ⟨rfl, t2⟩
theorem step_call (h : Pr base a b n n w0 w) (kind conn num : Int) (s : ByteArray) (M : Nat) (hB : Big n M) (hM : M + s.size ≤ 140737488355328) : StepP base a b n w0 w kind conn num s := by
  rcases kind_cases kind with rfl | rfl | rfl | rfl | rfl | rfl | rfl | rfl | rfl | ⟨k0, k1, k2, k3, k4, k5, k6, k7, k8⟩
  · exact step_connect h conn num s M hB hM
  · exact step_send h conn num s M hB hM
  · exact step_end h conn num s M hB hM
  · exact step_take h conn num s M hB hM
  · exact step_cut h conn num s M hB hM
  · exact step_accept h conn num s M hB hM
  · exact step_read h conn num s M hB hM
  · exact step_write h conn num s M hB hM
  · exact step_close h conn num s M hB hM
  · exact step_look h kind conn num s M hB hM k0 k1 k2 k3 k4 k5 k6 k7 k8
end
end Go.Proofs.Ythmfgnagpifnlaa.Step
