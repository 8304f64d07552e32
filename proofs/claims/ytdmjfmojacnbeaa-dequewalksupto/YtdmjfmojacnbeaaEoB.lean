/- The law's do at 2, 4, 5, 6, 7. -/
import Derived.Test.YtdmjfmojacnbeaaEoA
namespace Go.Proofs.Ytdmjfmojacnbeaa.EoB
open Go.RowKit
open Go.Proofs.Ytdmjfmojacnbeaa.Base
open Go.Proofs.Ytdmjfmojacnbeaa.Held
open Go.Proofs.Ytdmjfmojacnbeaa.Lay
open Go.Proofs.Ytdmjfmojacnbeaa.Free
open Go.Proofs.Ytdmjfmojacnbeaa.Keep
open Go.Proofs.Ytdmjfmojacnbeaa.Pop
open Go.Proofs.Ytdmjfmojacnbeaa.Place
open Go.Proofs.Ytdmjfmojacnbeaa.Piece
open Go.Proofs.Ytdmjfmojacnbeaa.App
open Go.Proofs.Ytdmjfmojacnbeaa.FindMath
open Go.Proofs.Ytdmjfmojacnbeaa.Find
open Go.Proofs.Ytdmjfmojacnbeaa.FindA
open Go.Proofs.Ytdmjfmojacnbeaa.DropC
open Go.Proofs.Ytdmjfmojacnbeaa.Remove
open Go.Proofs.Ytdmjfmojacnbeaa.Insert
open Go.Proofs.Ytdmjfmojacnbeaa.Same
open Go.Proofs.Ytdmjfmojacnbeaa.Awake
open Go.Proofs.Ytdmjfmojacnbeaa.Ends
open Go.Proofs.Ytdmjfmojacnbeaa.Ref
open Go.Proofs.Ytdmjfmojacnbeaa.RefB
open Go.Proofs.Ytdmjfmojacnbeaa.RefC
open Go.Proofs.Ytdmjfmojacnbeaa.EoA
set_option linter.unusedVariables false
set_option linter.unusedSimpArgs false
theorem next2 {F : Nat → Prop} {B : Cx} {b : Nat} {l l' : List El} {u r : Value} {w0 w w3 w4 : World} (h : Sx F B b l u w0 w) (q : DQ (Gr F w) b l' w3) (f : Fr F w w3) (k : Below w3.heap.size w3 w4) (n : SL (fun k => w3.heap.size ≤ k) w4 r l') : ∃ F', Sx F' B b l' r w0 w4 :=
  ⟨fun j => Gr F w j ∧ j < w3.heap.size, (q.low).below k, n.mono fun j _ e => ⟨fun c => by have := c.2; omega, fun c => by have := h.xw j c; have := f.size; omega⟩, fun j e => ⟨h.gr j e.1, Nat.lt_of_lt_of_le e.2 k.size⟩, fun j e => Nat.lt_of_lt_of_le (h.xw j e) (Nat.le_trans f.size k.size), fun j e => Nat.lt_of_lt_of_le (h.lo j e) (Nat.le_trans f.size k.size), (h.fb f).trans (Fr.of_below k)⟩
theorem sl_or {F X : Nat → Prop} {W w w' : World} {r : Value} {l : List El} (s : SL (fun k => (¬ F k ∧ ¬ X k) ∨ W.heap.size ≤ k) w r l) (hF : ∀ k, F k ∨ X k → k < W.heap.size) (f : Fr F w w') : SL (fun k => ¬ Gr F w k ∧ ¬ X k) w' r l :=
  SL.frx (s.mono (G' := fun k => ¬ F k ∧ ¬ X k) fun k _ e => by
    rcases e with e | e
    · exact e
    · exact ⟨fun c => by have := hF k (.inl c); omega, fun c => by have := hF k (.inr c); omega⟩) f
set_option maxHeartbeats 4000000 in
set_option maxRecDepth 100000 in
theorem do_2 {F : Nat → Prop} {B : Cx} {b : Nat} {l m : List El} {u : Value} {la : Option Addr} {lc : Nat} {w0 w : World} (h : Sx F B b l u w0 w) (hm : SL B.Lo w (.slice la m.length lc) m) (A Bq C : Int) (bf : Bool) (hA : In A) (hBq : In Bq) (hb : 3 * (l.length + m.length) ≤ 4194304) :
    Calls Try.prog 11 #[ptr b, u, .agg (box 2 A Bq C (.slice la m.length lc) bf)] w (DoE B b (doS l ⟨2, m, A, Bq, C, bf⟩) w0) := by
  obtain ⟨v1, w1, g, gc, w2, hrun1, hrun2, hgv, hg, hbx, k2⟩ := given_run 2 A Bq C bf hm (by omega)
  have E2 := hid_of (h.read k2)
  have c0 : w2.cell? ⟨w.heap.size, 0, none⟩ = some (.int .i64 2) := Lib.cell_of_heap hbx 0
  have c2 : w2.cell? ⟨w.heap.size, 2, none⟩ = some (.int .i64 A) := Lib.cell_of_heap hbx 2
  have c3 : w2.cell? ⟨w.heap.size, 3, none⟩ = some (.int .i64 Bq) := Lib.cell_of_heap hbx 3
  have c5 : w2.cell? ⟨w.heap.size, 5, none⟩ = some (.bool bf) := Lib.cell_of_heap hbx 5
  have HBx := hid_of hbx
  have hX : Hid (∀ k, F k → k < w.heap.size) := fun k e => (h.ow k e).2
  have hXw : w.heap.size < w2.heap.size := lt_of hbx
  obtain ⟨u1, u2, u3, rfl⟩ : ∃ u1 u2 u3, u = .slice u1 u2 u3 := by
    obtain ⟨a, c, e, _⟩ := h.sl
    exact ⟨a, _, c, e⟩
  have HA := hid_of hA
  have HBq := hid_of hBq
  have HL := hid_of (show (l.length + 1) * 8 ≤ 140737488355328 ∧ (3 * l.length + 2) * 8 ≤ 281474976710656 ∧ l.length ≤ 35184372088832 by omega)
  have HP := hid_of (rpop_call E2.out.sl A (by have := HL.out; omega))
  clear h hm hgv hbx k2 hA hBq hb
  go_enter Try.func11, Try.ntmps11
  go_wp2_with (first | (at_builtin; refine wpl_eq rfl _ _ 22 22 rfl (.slice none 0 0) (.slice la m.length lc) v1 _ w1 rfl rfl hrun1 ?_; clear hrun1) | (at_builtin; refine wpl_eq rfl _ _ 22 22 rfl v1 (.slice (some ⟨w1.heap.size, 0, none⟩) 1 1) (.slice (some ⟨g, 0, none⟩) (m.length + 1) gc) _ w2 rfl rfl hrun2 ?_; clear hrun2))
  refine HP.out.mono ?_
  rintro e w3 ⟨r3, s3, rfl, nr, ns, k3⟩
  have E3 := hid_of (E2.out.read k3)
  have N3 := hid_of (And.intro nr ns)
  have d2 : w3.cell? ⟨w.heap.size, 2, none⟩ = some (.int .i64 A) := Lib.cell_of_heap ((k3.block _ hXw).trans HBx.out) 2
  have HD := hid_of (popFront_call E3.out.dq A (by have := HL.out; omega))
  have hw2 : Hid (∀ k, F k ∨ B.X k → k < w2.heap.size) := fun k e => e.elim (fun e => (E2.out.ow k e).2) (E2.out.xw k)
  clear nr ns k3 c0 c2 c3 c5
  go_wp2_with fail
  refine HD.out.mono ?_
  rintro e w4 ⟨v4, rfl, n4, q4, f4⟩
  have S4 := hid_of (nr_sl N3.out.2 hw2.out f4)
  have HS := hid_of (same_call n4.sl (nr_sl N3.out.1 hw2.out f4) rfl (by rw [List.length_take]; have := HL.out; omega))
  have Q4 := hid_of (E3.out.next q4 f4 S4.out)
  clear n4 q4 f4
  go_wp2_with fail
  refine HS.out.mono ?_
  rintro e w5 ⟨rfl, m5, rfl⟩
  go_wp2_with fail
  go_ret2
  obtain ⟨F', q⟩ := Q4.out
  exact ⟨s3, rfl, F', q.drewN m5⟩
set_option maxHeartbeats 4000000 in
set_option maxRecDepth 100000 in
theorem do_4 {F : Nat → Prop} {B : Cx} {b : Nat} {l m : List El} {u : Value} {la : Option Addr} {lc : Nat} {w0 w : World} (h : Sx F B b l u w0 w) (hm : SL B.Lo w (.slice la m.length lc) m) (A Bq C : Int) (bf : Bool) (hA : In A) (hBq : In Bq) (hb : 3 * (l.length + m.length) ≤ 4194304) :
    Calls Try.prog 11 #[ptr b, u, .agg (box 4 A Bq C (.slice la m.length lc) bf)] w (DoE B b (doS l ⟨4, m, A, Bq, C, bf⟩) w0) := by
  obtain ⟨v1, w1, g, gc, w2, hrun1, hrun2, hgv, hg, hbx, k2⟩ := given_run 4 A Bq C bf hm (by omega)
  have E2 := hid_of (h.read k2)
  have c0 : w2.cell? ⟨w.heap.size, 0, none⟩ = some (.int .i64 4) := Lib.cell_of_heap hbx 0
  have c2 : w2.cell? ⟨w.heap.size, 2, none⟩ = some (.int .i64 A) := Lib.cell_of_heap hbx 2
  have c3 : w2.cell? ⟨w.heap.size, 3, none⟩ = some (.int .i64 Bq) := Lib.cell_of_heap hbx 3
  have c5 : w2.cell? ⟨w.heap.size, 5, none⟩ = some (.bool bf) := Lib.cell_of_heap hbx 5
  have HBx := hid_of hbx
  have hX : Hid (∀ k, F k → k < w.heap.size) := fun k e => (h.ow k e).2
  have hXw : w.heap.size < w2.heap.size := lt_of hbx
  obtain ⟨u1, u2, u3, rfl⟩ : ∃ u1 u2 u3, u = .slice u1 u2 u3 := by
    obtain ⟨a, c, e, _⟩ := h.sl
    exact ⟨a, _, c, e⟩
  have HA := hid_of hA
  have HBq := hid_of hBq
  have HL := hid_of (show (l.length + 1) * 8 ≤ 140737488355328 ∧ (3 * l.length + 2) * 8 ≤ 281474976710656 ∧ l.length ≤ 35184372088832 by omega)
  have HP := hid_of (rput_call E2.out.sl A HA.out.1 Bq (by have := HL.out; omega))
  obtain ⟨t, HT⟩ : ∃ t, Hid (t = (idx l.length A).isSome) := ⟨_, hid_of rfl⟩
  rw [← HT.out] at HP
  clear h hm hgv hbx k2 hA hBq hb
  go_enter Try.func11, Try.ntmps11
  go_wp2_with (first | (at_builtin; refine wpl_eq rfl _ _ 22 22 rfl (.slice none 0 0) (.slice la m.length lc) v1 _ w1 rfl rfl hrun1 ?_; clear hrun1) | (at_builtin; refine wpl_eq rfl _ _ 22 22 rfl v1 (.slice (some ⟨w1.heap.size, 0, none⟩) 1 1) (.slice (some ⟨g, 0, none⟩) (m.length + 1) gc) _ w2 rfl rfl hrun2 ?_; clear hrun2))
  refine HP.out.mono ?_
  rintro e w3 ⟨r3, rfl, nr, k3⟩
  have E3 := hid_of (E2.out.read k3)
  have N3 := hid_of nr
  have d2 : w3.cell? ⟨w.heap.size, 2, none⟩ = some (.int .i64 A) := Lib.cell_of_heap ((k3.block _ hXw).trans HBx.out) 2
  have d3 : w3.cell? ⟨w.heap.size, 3, none⟩ = some (.int .i64 Bq) := Lib.cell_of_heap ((k3.block _ hXw).trans HBx.out) 3
  have HD := hid_of (put_call E3.out.dq A HA.out.1 Bq)
  rw [← HT.out] at HD
  have hw2 : Hid (∀ k, F k ∨ B.X k → k < w2.heap.size) := fun k e => e.elim (fun e => (E2.out.ow k e).2) (E2.out.xw k)
  clear nr k3 c0 c2 c3 c5
  go_wp2_with fail
  refine HD.out.mono ?_
  rintro e w4 ⟨rfl, q4, f4⟩
  have Q4 := hid_of (E3.out.next (q4.up w3) f4 (sl_or N3.out hw2.out f4))
  have tt : (t == t) = true := by simp
  clear q4 f4
  go_wp2_with fail
  go_ret2
  obtain ⟨F', q⟩ := Q4.out
  exact ⟨r3, by first | rfl | simp, F', q⟩
set_option maxHeartbeats 4000000 in
set_option maxRecDepth 100000 in
theorem do_5 {F : Nat → Prop} {B : Cx} {b : Nat} {l m : List El} {u : Value} {la : Option Addr} {lc : Nat} {w0 w : World} (h : Sx F B b l u w0 w) (hm : SL B.Lo w (.slice la m.length lc) m) (A Bq C : Int) (bf : Bool) (hA : In A) (hBq : In Bq) (hb : 3 * (l.length + m.length) ≤ 4194304) :
    Calls Try.prog 11 #[ptr b, u, .agg (box 5 A Bq C (.slice la m.length lc) bf)] w (DoE B b (doS l ⟨5, m, A, Bq, C, bf⟩) w0) := by
  obtain ⟨v1, w1, g, gc, w2, hrun1, hrun2, hgv, hg, hbx, k2⟩ := given_run 5 A Bq C bf hm (by omega)
  have E2 := hid_of (h.read k2)
  have c0 : w2.cell? ⟨w.heap.size, 0, none⟩ = some (.int .i64 5) := Lib.cell_of_heap hbx 0
  have c2 : w2.cell? ⟨w.heap.size, 2, none⟩ = some (.int .i64 A) := Lib.cell_of_heap hbx 2
  have c3 : w2.cell? ⟨w.heap.size, 3, none⟩ = some (.int .i64 Bq) := Lib.cell_of_heap hbx 3
  have c5 : w2.cell? ⟨w.heap.size, 5, none⟩ = some (.bool bf) := Lib.cell_of_heap hbx 5
  have HBx := hid_of hbx
  have hX : Hid (∀ k, F k → k < w.heap.size) := fun k e => (h.ow k e).2
  have hXw : w.heap.size < w2.heap.size := lt_of hbx
  obtain ⟨u1, u2, u3, rfl⟩ : ∃ u1 u2 u3, u = .slice u1 u2 u3 := by
    obtain ⟨a, c, e, _⟩ := h.sl
    exact ⟨a, _, c, e⟩
  have HA := hid_of hA
  have HBq := hid_of hBq
  have HL := hid_of (show (l.length + 1) * 8 ≤ 140737488355328 ∧ (3 * l.length + 2) * 8 ≤ 281474976710656 ∧ l.length ≤ 35184372088832 by omega)
  have HP := hid_of (trim_call E2.out.dq A Bq HA.out.1 HBq.out.1 HA.out.2 HBq.out.2)
  clear h hm hgv hbx k2 hA hBq hb
  go_enter Try.func11, Try.ntmps11
  go_wp2_with (first | (at_builtin; refine wpl_eq rfl _ _ 22 22 rfl (.slice none 0 0) (.slice la m.length lc) v1 _ w1 rfl rfl hrun1 ?_; clear hrun1) | (at_builtin; refine wpl_eq rfl _ _ 22 22 rfl v1 (.slice (some ⟨w1.heap.size, 0, none⟩) 1 1) (.slice (some ⟨g, 0, none⟩) (m.length + 1) gc) _ w2 rfl rfl hrun2 ?_; clear hrun2))
  refine HP.out.mono ?_
  rintro e w3 ⟨rfl, q3, f3⟩
  have hne : ¬ F w.heap.size := fun e => Nat.lt_irrefl _ (hX.out _ e)
  have d2 : w3.cell? ⟨w.heap.size, 2, none⟩ = some (.int .i64 A) := Lib.cell_of_heap ((f3.block _ hXw hne).trans HBx.out) 2
  have d3 : w3.cell? ⟨w.heap.size, 3, none⟩ = some (.int .i64 Bq) := Lib.cell_of_heap ((f3.block _ hXw hne).trans HBx.out) 3
  have HR := hid_of (rpiece_call (SL.frn E2.out.sl f3) A Bq HA.out.1 HBq.out.1 HA.out.2 HBq.out.2 (by have := HL.out; omega))
  have E3 := hid_of (And.intro q3 f3)
  clear q3 f3 c0 c2 c3 c5 hne
  go_wp2_with fail
  refine HR.out.mono ?_
  rintro e w4 ⟨r4, rfl, n4, k4⟩
  have Q4 := hid_of (next2 E2.out E3.out.1 E3.out.2 k4 n4.sl)
  clear n4 k4
  go_wp2_with fail
  go_ret2
  obtain ⟨F', q⟩ := Q4.out
  exact ⟨r4, rfl, F', q⟩
set_option maxHeartbeats 4000000 in
set_option maxRecDepth 100000 in
theorem do_6 {F : Nat → Prop} {B : Cx} {b : Nat} {l m : List El} {u : Value} {la : Option Addr} {lc : Nat} {w0 w : World} (h : Sx F B b l u w0 w) (hm : SL B.Lo w (.slice la m.length lc) m) (A Bq C : Int) (bf : Bool) (hA : In A) (hBq : In Bq) (hb : 3 * (l.length + m.length) ≤ 4194304) :
    Calls Try.prog 11 #[ptr b, u, .agg (box 6 A Bq C (.slice la m.length lc) bf)] w (DoE B b (doS l ⟨6, m, A, Bq, C, bf⟩) w0) := by
  obtain ⟨v1, w1, g, gc, w2, hrun1, hrun2, hgv, hg, hbx, k2⟩ := given_run 6 A Bq C bf hm (by omega)
  have E2 := hid_of (h.read k2)
  have c0 : w2.cell? ⟨w.heap.size, 0, none⟩ = some (.int .i64 6) := Lib.cell_of_heap hbx 0
  have c2 : w2.cell? ⟨w.heap.size, 2, none⟩ = some (.int .i64 A) := Lib.cell_of_heap hbx 2
  have c3 : w2.cell? ⟨w.heap.size, 3, none⟩ = some (.int .i64 Bq) := Lib.cell_of_heap hbx 3
  have c5 : w2.cell? ⟨w.heap.size, 5, none⟩ = some (.bool bf) := Lib.cell_of_heap hbx 5
  have HBx := hid_of hbx
  have hX : Hid (∀ k, F k → k < w.heap.size) := fun k e => (h.ow k e).2
  have hXw : w.heap.size < w2.heap.size := lt_of hbx
  obtain ⟨u1, u2, u3, rfl⟩ : ∃ u1 u2 u3, u = .slice u1 u2 u3 := by
    obtain ⟨a, c, e, _⟩ := h.sl
    exact ⟨a, _, c, e⟩
  have HA := hid_of hA
  have HBq := hid_of hBq
  have HL := hid_of (show (l.length + 1) * 8 ≤ 140737488355328 ∧ (3 * l.length + 2) * 8 ≤ 281474976710656 ∧ l.length ≤ 35184372088832 by omega)
  have HP := hid_of (rremove_call E2.out.sl A Bq HA.out.1 HA.out.2 (by have := HL.out; omega))
  obtain ⟨t, HT⟩ : ∃ t, Hid (t = (remP l A Bq).length) := ⟨_, hid_of rfl⟩
  rw [← HT.out] at HP
  clear h hm hgv hbx k2 hA hBq hb
  go_enter Try.func11, Try.ntmps11
  go_wp2_with (first | (at_builtin; refine wpl_eq rfl _ _ 22 22 rfl (.slice none 0 0) (.slice la m.length lc) v1 _ w1 rfl rfl hrun1 ?_; clear hrun1) | (at_builtin; refine wpl_eq rfl _ _ 22 22 rfl v1 (.slice (some ⟨w1.heap.size, 0, none⟩) 1 1) (.slice (some ⟨g, 0, none⟩) (m.length + 1) gc) _ w2 rfl rfl hrun2 ?_; clear hrun2))
  refine HP.out.mono ?_
  rintro e w3 ⟨r3, rfl, nr, k3⟩
  have E3 := hid_of (E2.out.read k3)
  have N3 := hid_of nr
  have d2 : w3.cell? ⟨w.heap.size, 2, none⟩ = some (.int .i64 A) := Lib.cell_of_heap ((k3.block _ hXw).trans HBx.out) 2
  have d3 : w3.cell? ⟨w.heap.size, 3, none⟩ = some (.int .i64 Bq) := Lib.cell_of_heap ((k3.block _ hXw).trans HBx.out) 3
  have HD := hid_of (remove_call E3.out.dq A Bq (by have := HL.out; omega))
  rw [← HT.out] at HD
  have hw2 : Hid (∀ k, F k ∨ B.X k → k < w2.heap.size) := fun k e => e.elim (fun e => (E2.out.ow k e).2) (E2.out.xw k)
  clear nr k3 c0 c2 c3 c5
  go_wp2_with fail
  refine HD.out.mono ?_
  rintro e w4 ⟨rfl, q4, f4⟩
  have Q4 := hid_of (E3.out.next q4 f4 (nr_sl N3.out hw2.out f4))
  clear q4 f4
  go_wp2_with fail
  go_ret2
  obtain ⟨F', q⟩ := Q4.out
  exact ⟨r3, by first | rfl | simp, F', q⟩
set_option maxHeartbeats 4000000 in
set_option maxRecDepth 100000 in
theorem do_7 {F : Nat → Prop} {B : Cx} {b : Nat} {l m : List El} {u : Value} {la : Option Addr} {lc : Nat} {w0 w : World} (h : Sx F B b l u w0 w) (hm : SL B.Lo w (.slice la m.length lc) m) (A Bq C : Int) (bf : Bool) (hA : In A) (hBq : In Bq) (hb : 3 * (l.length + m.length) ≤ 4194304) :
    Calls Try.prog 11 #[ptr b, u, .agg (box 7 A Bq C (.slice la m.length lc) bf)] w (DoE B b (doS l ⟨7, m, A, Bq, C, bf⟩) w0) := by
  obtain ⟨v1, w1, g, gc, w2, hrun1, hrun2, hgv, hg, hbx, k2⟩ := given_run 7 A Bq C bf hm (by omega)
  have E2 := hid_of (h.read k2)
  have c0 : w2.cell? ⟨w.heap.size, 0, none⟩ = some (.int .i64 7) := Lib.cell_of_heap hbx 0
  have c2 : w2.cell? ⟨w.heap.size, 2, none⟩ = some (.int .i64 A) := Lib.cell_of_heap hbx 2
  have c3 : w2.cell? ⟨w.heap.size, 3, none⟩ = some (.int .i64 Bq) := Lib.cell_of_heap hbx 3
  have c5 : w2.cell? ⟨w.heap.size, 5, none⟩ = some (.bool bf) := Lib.cell_of_heap hbx 5
  have HBx := hid_of hbx
  have hX : Hid (∀ k, F k → k < w.heap.size) := fun k e => (h.ow k e).2
  have hXw : w.heap.size < w2.heap.size := lt_of hbx
  obtain ⟨u1, u2, u3, rfl⟩ : ∃ u1 u2 u3, u = .slice u1 u2 u3 := by
    obtain ⟨a, c, e, _⟩ := h.sl
    exact ⟨a, _, c, e⟩
  have HA := hid_of hA
  have HBq := hid_of hBq
  have HL := hid_of (show (l.length + 1) * 8 ≤ 140737488355328 ∧ (3 * l.length + 2) * 8 ≤ 281474976710656 ∧ l.length ≤ 35184372088832 by omega)
  have HP := hid_of (rinsert_call E2.out.sl bf A Bq HL.out.1)
  have hdo : Hid (doS l ⟨7, m, A, Bq, C, bf⟩ = insD l bf A Bq) := rfl
  rw [hdo.out]
  clear h hm hgv hbx k2 hA hBq hb
  go_enter Try.func11, Try.ntmps11
  go_wp2_with (first | (at_builtin; refine wpl_eq rfl _ _ 22 22 rfl (.slice none 0 0) (.slice la m.length lc) v1 _ w1 rfl rfl hrun1 ?_; clear hrun1) | (at_builtin; refine wpl_eq rfl _ _ 22 22 rfl v1 (.slice (some ⟨w1.heap.size, 0, none⟩) 1 1) (.slice (some ⟨g, 0, none⟩) (m.length + 1) gc) _ w2 rfl rfl hrun2 ?_; clear hrun2))
  refine HP.out.mono ?_
  rintro e w3 (⟨hno, rfl, hw3⟩ | ⟨k, r3, hk, hyes, rfl, nr, k3⟩)
  · rw [hw3]
    have HD := hid_of (insert_no E2.out.dq bf A Bq (by have := HL.out; omega) hno)
    have HI := hid_of (show insD l bf A Bq = l by unfold insD; rw [hno])
    clear hw3 hno
    go_wp2_with fail
    refine HD.out.mono ?_
    rintro e w4 ⟨rfl, q4, k4⟩
    have Q4 := hid_of (E2.out.read k4)
    clear q4 k4
    go_wp2_with fail
    go_ret2
    rw [HI.out]
    exact ⟨_, rfl, F, Q4.out⟩
  · have E3 := hid_of (E2.out.read k3)
    have N3 := hid_of nr
    have d2 : w3.cell? ⟨w.heap.size, 2, none⟩ = some (.int .i64 A) := Lib.cell_of_heap ((k3.block _ hXw).trans HBx.out) 2
    have d3 : w3.cell? ⟨w.heap.size, 3, none⟩ = some (.int .i64 Bq) := Lib.cell_of_heap ((k3.block _ hXw).trans HBx.out) 3
    have d5 : w3.cell? ⟨w.heap.size, 5, none⟩ = some (.bool bf) := Lib.cell_of_heap ((k3.block _ hXw).trans HBx.out) 5
    have HD := hid_of (insert_yes E3.out.dq bf A Bq k HL.out.2.1 (by have := HL.out; omega) hyes hk)
    have HI := hid_of (show insD l bf A Bq = insS l (if bf then k else k + 1) Bq by unfold insD; rw [hyes])
    have hw2 : Hid (∀ k, F k ∨ B.X k → k < w2.heap.size) := fun k e => e.elim (fun e => (E2.out.ow k e).2) (E2.out.xw k)
    obtain ⟨t, HT⟩ : ∃ t : Nat, Hid (t = l.length + 1) := ⟨_, hid_of rfl⟩
    rw [← HT.out] at HD ⊢
    clear nr k3 c0 c2 c3 c5 hyes hk
    go_wp2_with fail
    refine HD.out.mono ?_
    rintro e w4 ⟨rfl, q4, f4⟩
    have Q4 := hid_of (E3.out.next q4 f4 (nr_sl N3.out hw2.out f4))
    clear q4 f4
    go_wp2_with fail
    go_ret2
    rw [HI.out]
    obtain ⟨F', q⟩ := Q4.out
    exact ⟨r3, by first | rfl | simp, F', q⟩
end Go.Proofs.Ytdmjfmojacnbeaa.EoB
