/- The code's network and the document's, side by side; look. -/
import Derived.Test.YthmfgnagpifnlaaRefLine
import Derived.Test.YthmfgnagpifnlaaApart2
namespace Go.Proofs.Ythmfgnagpifnlaa.Pair
open Go.RowKit
open Go.Proofs.Ythmfgnagpifnlaa.PipeMath
open Go.Proofs.Ythmfgnagpifnlaa.Base
open Go.Proofs.Ythmfgnagpifnlaa.Queue
open Go.Proofs.Ythmfgnagpifnlaa.Queue2
open Go.Proofs.Ythmfgnagpifnlaa.Net
open Go.Proofs.Ythmfgnagpifnlaa.Calls3
open Go.Proofs.Ythmfgnagpifnlaa.Line
open Go.Proofs.Ythmfgnagpifnlaa.Apart
open Go.Proofs.Ythmfgnagpifnlaa.RefBase
open Go.Proofs.Ythmfgnagpifnlaa.RefCalls
open Go.Proofs.Ythmfgnagpifnlaa.RefLine
set_option linter.unusedVariables false

structure Pr (base a b : Nat) (na nb : Nt) (w0 w : World) : Prop where
  two : ∃ Fa Fb, Has Fa a na w ∧ RHas Fb b nb w ∧ (∀ k, Fa k → ¬ Fb k) ∧ (∀ k, Fa k → base ≤ k ∧ k < w.heap.size) ∧ ∀ k, Fb k → base ≤ k ∧ k < w.heap.size
  low : base ≤ w.heap.size
  bl : Below base w0 w
theorem rhas_low {F : Nat → Prop} {b : Nat} {n : Nt} {w : World} (h : RHas F b n w) : RHas (fun k => F k ∧ k < w.heap.size) b n w := by
  obtain ⟨lv, xs, h⟩ := h
  exact ⟨lv, xs, h.low⟩
theorem rhas_mono {F G : Nat → Prop} {b : Nat} {n : Nt} {w : World} (h : RHas F b n w) (hG : ∀ k, F k → G k) : RHas G b n w := by
  obtain ⟨lv, xs, h⟩ := h
  exact ⟨lv, xs, h.mono hG⟩
theorem rhas_keep {F G : Nat → Prop} {b : Nat} {n : Nt} {w w' : World} (h : RHas F b n w) (he : Fr G w w') (hd : ∀ k, F k → ¬ G k) : RHas F b n w' := by
  obtain ⟨lv, xs, h⟩ := h
  exact ⟨lv, xs, h.keep he hd⟩
section
variable {base a b : Nat} {na nb na' nb' : Nt} {w0 w w' : World} {f : FuncId} {args : Array Value} {P : Ending → Prop} {Q : Ending → World → Prop}
theorem Pr.below (h : Pr base a b na nb w0 w) (e : Below w.heap.size w w') : Pr base a b na nb w0 w' := by
  obtain ⟨Fa, Fb, h1, h2, h3, h4, h5⟩ := h.two
  exact ⟨⟨Fa, Fb, has_keep (G := fun _ => False) h1 (Fr.of_below e) (fun _ _ e => e), rhas_keep (G := fun _ => False) h2 (Fr.of_below e) (fun _ _ e => e), h3, fun k e2 => ⟨(h4 k e2).1, Nat.lt_of_lt_of_le (h4 k e2).2 e.size⟩, fun k e2 => ⟨(h5 k e2).1, Nat.lt_of_lt_of_le (h5 k e2).2 e.size⟩⟩, Nat.le_trans h.low e.size, h.bl.trans (e.mono h.low)⟩
theorem Pr.drewN (h : Pr base a b na nb w0 w) (m : Nat) : Pr base a b na nb w0 (w.drewN m) := h.below ⟨rfl, rfl, rfl, Nat.le_refl _, fun _ _ => rfl⟩
theorem Pr.alloc (h : Pr base a b na nb w0 w) (o : Obj) : Pr base a b na nb w0 (w.alloc o) := h.below ((Below.refl _ w).alloc (Nat.le_refl _) o)
theorem Pr.askA (h : Pr base a b na nb w0 w) (hc : ∀ F y, NK F a y na w → Calls Try.prog f args w Q) : Calls Try.prog f args w Q := by
  obtain ⟨Fa, Fb, ⟨y, h1⟩, h2, h3, h4, h5⟩ := h.two
  exact hc Fa y h1
theorem Pr.askB (h : Pr base a b na nb w0 w) (hc : ∀ F lv xs, RK F b lv xs nb w → Calls Try.prog f args w Q) : Calls Try.prog f args w Q := by
  obtain ⟨Fa, Fb, h1, ⟨lv, xs, h2⟩, h3, h4, h5⟩ := h.two
  exact hc Fb lv xs h2
theorem Pr.okA (h : Pr base a b na nb w0 w) : Ok na := by
  obtain ⟨Fa, Fb, ⟨y, h1⟩, h2, h3, h4, h5⟩ := h.two
  exact h1.ok
/- the first call, on the code's, behind a box -/
theorem Pr.callA (h : Pr base a b na nb w0 w) (o : Obj) {W : World} (hl : Lk (w.alloc o) W) (hc : ∀ F y, NK F a y na W → Calls Try.prog f args W fun e w' => P e ∧ Has (Gr F W) a na' w' ∧ Fr F W w') : Calls Try.prog f args W fun e w' => P e ∧ Pr base a b na' nb w0 w' ∧ w'.heap[w.heap.size]? = some o := by
  obtain ⟨Fa, Fb, ⟨y, h1⟩, h2, h3, h4, h5⟩ := h.two
  have hs : W.heap.size = w.heap.size + 1 := by rw [hl.heap]; simp
  have hb : Below w.heap.size w W := by
    have := (Below.refl w.heap.size w).alloc (Nat.le_refl _) o
    exact ⟨hl.os.trans this.os, hl.tape.trans this.tape, hl.output.trans this.output, by omega, fun k hk => by rw [hl.heap]; exact this.block k hk⟩
  refine (hc Fa y (h1.below hb)).mono fun e w' ⟨p, q, f⟩ => ⟨p, ⟨⟨fun k => Gr Fa W k ∧ k < w'.heap.size, Fb, has_low q, rhas_keep (rhas_keep (G := fun _ => False) h2 (Fr.of_below hb) (fun _ _ e => e)) f (fun k e e2 => h3 k e2 e), fun k e e2 => ?_, fun k e => ⟨?_, e.2⟩, fun k e => ⟨(h5 k e).1, by have := f.size; have := (h5 k e).2; omega⟩⟩, Nat.le_trans h.low (Nat.le_trans hb.size f.size), (h.bl.trans (hb.mono h.low)).trans (f.below (Nat.le_trans h.low hb.size) fun k e => (h4 k e).1)⟩, ?_⟩
  · rcases e.1 with e1 | e1
    · exact h3 k e1 e2
    · have := (h5 k e2).2; omega
  · rcases e.1 with e1 | e1
    · exact (h4 k e1).1
    · exact Nat.le_trans h.low (by omega)
  · rw [f.block w.heap.size (by omega) (fun e => by have := (h4 _ e).2; omega), hl.heap]
    exact heap_alloc_new w o
/- the second one, on the document's -/
theorem Pr.callB (h : Pr base a b na nb w0 w) (hc : ∀ F lv xs, RK F b lv xs nb w → Calls Try.prog f args w fun e w' => P e ∧ RHas (Gr F w) b nb' w' ∧ Fr F w w') : Calls Try.prog f args w fun e w' => P e ∧ Pr base a b na nb' w0 w' := by
  obtain ⟨Fa, Fb, h1, ⟨lv, xs, h2⟩, h3, h4, h5⟩ := h.two
  refine (hc Fb lv xs h2).mono fun e w' ⟨p, q, f⟩ => ⟨p, ⟨⟨Fa, fun k => Gr Fb w k ∧ k < w'.heap.size, has_keep h1 f (fun k e e2 => h3 k e e2), rhas_low q, fun k e e2 => ?_, fun k e => ⟨(h4 k e).1, Nat.lt_of_lt_of_le (h4 k e).2 f.size⟩, fun k e => ⟨?_, e.2⟩⟩, Nat.le_trans h.low f.size, h.bl.trans (f.below h.low fun k e => (h5 k e).1)⟩⟩
  · rcases e2.1 with e1 | e1
    · exact h3 k e e1
    · have := (h4 k e).2; omega
  · rcases e.1 with e1 | e1
    · exact (h5 k e1).1
    · exact Nat.le_trans h.low e1
end
theorem up_has {F : Nat → Prop} {b : Nat} {n : Nt} {w w' : World} {P : Prop} (h : P ∧ RHas F b n w' ∧ Fr F w w') : P ∧ RHas (Gr F w) b n w' ∧ Fr F w w' := ⟨h.1, rhas_mono h.2.1 fun _ e => Or.inl e, h.2.2⟩
theorem line_shape (n : Nt) (c : Int) : ∃ (u0 u1 : Int) (b3 b4 b5 : Bool), lineV n c = .agg #[.int .i64 u0, .int .i64 u1, .bool false, .bool b3, .bool b4, .bool b5] := by
  unfold lineV
  cases n.at c with
  | none => exact ⟨0, 0, false, false, false, rfl⟩
  | some k => exact ⟨_, _, _, _, _, rfl⟩
set_option maxHeartbeats 4000000 in
set_option maxRecDepth 100000 in
theorem look_call {base a b : Nat} {n : Nt} {w0 w : World} (h : Pr base a b n n w0 w) (M : Nat) (hB : Big n M) (hM : M ≤ 140737488355328) (c : Int) : Calls Try.prog 11 #[ptr a, ptr b, .int .i64 c] w fun e w' => e = .returned (.bool true) ∧ Pr base a b n n w0 w' := by
  have ok := h.okA
  have za : ∀ c k, n.at c = some k → k.wrote.length ≤ 140737488355328 ∧ k.sent.length ≤ 140737488355328 := fun c k e => by have := hB.at e; omega
  have LA := hid_of (fun W (T : Pr base a b n n w0 W) => T.askA (f := 15) (args := #[ptr a, .int .i64 c]) fun F y q => line_call q c (za c))
  have LB := hid_of (fun W (T : Pr base a b n n w0 W) => T.askB (f := 37) (args := #[ptr b, .int .i64 c]) fun F lv xs q => rline_call q ok c (za c))
  have CA := hid_of (fun W (T : Pr base a b n n w0 W) => T.askA (f := 13) (args := #[ptr a]) fun F y q => conns_call q)
  have RA := hid_of (fun W (T : Pr base a b n n w0 W) => T.askA (f := 20) (args := #[ptr a, .int .i64 c]) fun F y q => room_call q c fun k e => (za c k e).1)
  have RB := hid_of (fun W (T : Pr base a b n n w0 W) => T.askB (f := 38) (args := #[ptr b, .int .i64 c]) fun F lv xs q => rroom_call q ok (fun c k e => (za c k e).1) c)
  have SA := hid_of (fun W (T : Pr base a b n n w0 W) => T.askA (f := 17) (args := #[ptr a, .int .i64 c]) fun F y q => sent_call q c)
  have SB := hid_of (fun W (T : Pr base a b n n w0 W) => T.askB (f := 39) (args := #[ptr b, .int .i64 c]) fun F lv xs q => rsent_call q c)
  have TA := hid_of (fun W (T : Pr base a b n n w0 W) => T.askA (f := 18) (args := #[ptr a, .int .i64 c]) fun F y q => taken_call q c)
  have TB := hid_of (fun W (T : Pr base a b n n w0 W) => T.askB (f := 40) (args := #[ptr b, .int .i64 c]) fun F lv xs q => rtaken_call q ok c)
  obtain ⟨u0, u1, b3, b4, b5, hl⟩ := line_shape n c
  rw [hl] at LA LB
  obtain ⟨E, hE⟩ : ∃ E, E = lineE n c := ⟨_, rfl⟩
  rw [← hE] at LA LB
  obtain ⟨st, hst⟩ : ∃ st, st = mk (n.sentA c) := ⟨_, rfl⟩
  obtain ⟨tk, htk⟩ : ∃ tk, tk = mk (n.taken c) := ⟨_, rfl⟩
  obtain ⟨rm, hrm⟩ : ∃ rm, rm = n.room c := ⟨_, rfl⟩
  rw [← hst] at SA SB
  rw [← htk] at TA TB
  rw [← hrm] at RA RB
  have HLEN : Hid (∀ W, Pr base a b n n w0 W → ∃ x cp, W.cell? ⟨b, 1, none⟩ = some (.slice x n.cs.length cp)) := fun W T => by
    obtain ⟨Fa, Fb, h1, ⟨lv, xs, h2⟩, h3, h4, h5⟩ := T.two
    obtain ⟨x, cp, hv⟩ := row_shape h2.row
    exact ⟨x, cp, by rw [← hv]; exact Lib.cell_of_heap h2.net 1⟩
  have T0 := hid_of h
  clear h hl hE hst htk hrm za hB hM ok
  go_enter Try.func11, Try.ntmps11
  go_wp2_with fail
  refine (LA.out _ T0.out).mono ?_
  rintro e w7 ⟨rfl, b7⟩
  have T7 := hid_of (T0.out.below b7)
  clear b7
  go_wp2_with fail
  have T8 := hid_of (T7.out.alloc (.cells #[.int .i64 u0, .int .i64 u1, .bool false, .bool b3, .bool b4, .bool b5] 46))
  refine (LB.out _ T8.out).mono ?_
  rintro e w8 ⟨rfl, b8⟩
  have T9 := hid_of (T8.out.below b8)
  have hz : w7.heap.size < w8.heap.size := by have := b8.size; simp at this; omega
  have hbx : w8.heap[w7.heap.size]? = some (.cells #[.int .i64 u0, .int .i64 u1, .bool false, .bool b3, .bool b4, .bool b5] 46 (0, 0)) := (b8.block _ (by simp)).trans (heap_alloc_new w7 _)
  have HBX := hid_of hbx
  clear b8 hbx
  go_wp2_with fail
  obtain ⟨V, hV⟩ : ∃ V, V = w8.alloc (.cells #[.int .i64 u0, .int .i64 u1, .bool false, .bool b3, .bool b4, .bool b5] 46) := ⟨_, rfl⟩
  have T10 := hid_of (T9.out.alloc (.cells #[.int .i64 u0, .int .i64 u1, .bool false, .bool b3, .bool b4, .bool b5] 46))
  have p1 : V.heap[w7.heap.size]? = some (.cells #[.int .i64 u0, .int .i64 u1, .bool false, .bool b3, .bool b4, .bool b5] 46 (0, 0)) := by rw [hV]; exact (Below.heap_alloc _ _ _ hz).trans HBX.out
  have p2 : V.heap[w8.heap.size]? = some (.cells #[.int .i64 u0, .int .i64 u1, .bool false, .bool b3, .bool b4, .bool b5] 46 (0, 0)) := by rw [hV]; exact heap_alloc_new w8 _
  have x0 : V.cell? ⟨w7.heap.size, 0, none⟩ = some (.int .i64 u0) := Lib.cell_of_heap p1 0
  have x1 : V.cell? ⟨w7.heap.size, 1, none⟩ = some (.int .i64 u1) := Lib.cell_of_heap p1 1
  have x2 : V.cell? ⟨w7.heap.size, 2, none⟩ = some (.bool false) := Lib.cell_of_heap p1 2
  have x3 : V.cell? ⟨w7.heap.size, 3, none⟩ = some (.bool b3) := Lib.cell_of_heap p1 3
  have x4 : V.cell? ⟨w7.heap.size, 4, none⟩ = some (.bool b4) := Lib.cell_of_heap p1 4
  have x5 : V.cell? ⟨w7.heap.size, 5, none⟩ = some (.bool b5) := Lib.cell_of_heap p1 5
  have y0 : V.cell? ⟨w8.heap.size, 0, none⟩ = some (.int .i64 u0) := Lib.cell_of_heap p2 0
  have y1 : V.cell? ⟨w8.heap.size, 1, none⟩ = some (.int .i64 u1) := Lib.cell_of_heap p2 1
  have y2 : V.cell? ⟨w8.heap.size, 2, none⟩ = some (.bool false) := Lib.cell_of_heap p2 2
  have y3 : V.cell? ⟨w8.heap.size, 3, none⟩ = some (.bool b3) := Lib.cell_of_heap p2 3
  have y4 : V.cell? ⟨w8.heap.size, 4, none⟩ = some (.bool b4) := Lib.cell_of_heap p2 4
  have y5 : V.cell? ⟨w8.heap.size, 5, none⟩ = some (.bool b5) := Lib.cell_of_heap p2 5
  rw [← hV] at T10 ⊢
  clear hV p1 p2
  obtain ⟨x, cp, hlen⟩ := HLEN.out V T10.out
  go_quiet ((first | (go_at_call 13; exact Calls.quiet_of_same (CA.out (V.drewN _) (T10.out.drewN _))) | (go_at_call 20; exact Calls.quiet_of (RA.out (V.drewN _) (T10.out.drewN _))) | (go_at_call 38; exact Calls.quiet_of (RB.out (V.drewN _) (T10.out.drewN _))) | (go_at_call 17; exact Calls.quiet_of_same (SA.out (V.drewN _) (T10.out.drewN _))) | (go_at_call 39; exact Calls.quiet_of_same (SB.out (V.drewN _) (T10.out.drewN _))) | (go_at_call 18; exact Calls.quiet_of (TA.out (V.drewN _) (T10.out.drewN _))) | (go_at_call 40; exact Calls.quiet_of (TB.out (V.drewN _) (T10.out.drewN _)))))
  go_wp2_with fail
  go_ret
  exact ⟨rfl, T10.out.drewN _⟩
end Go.Proofs.Ythmfgnagpifnlaa.Pair
