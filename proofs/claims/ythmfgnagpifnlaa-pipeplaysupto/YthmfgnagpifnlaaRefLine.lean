/- The document's Line. -/
import Derived.Test.YthmfgnagpifnlaaRefCalls4
namespace Go.Proofs.Ythmfgnagpifnlaa.RefLine
open Go.RowKit
open Go.Proofs.Ythmfgnagpifnlaa.PipeMath
open Go.Proofs.Ythmfgnagpifnlaa.Base
open Go.Proofs.Ythmfgnagpifnlaa.Queue
open Go.Proofs.Ythmfgnagpifnlaa.Queue2
open Go.Proofs.Ythmfgnagpifnlaa.Calls
open Go.Proofs.Ythmfgnagpifnlaa.RefBase
open Go.Proofs.Ythmfgnagpifnlaa.Line
set_option linter.unusedVariables false
section
variable {F : Nat → Prop} {b : Nat} {lv : Value} {xs : List Value} {n : Nt} {w : World}
theorem below6a {w W : World} {B : Nat} (h : Below B w W) (hB : B ≤ W.heap.size) (v0 v1 v2 v3 v4 v5 : Value) (o1 o2 : Obj) : Below B w ((((((((W.setCell ⟨B, 0, none⟩ v0).setCell ⟨B, 1, none⟩ v1).setCell ⟨B, 2, none⟩ v2).setCell ⟨B, 3, none⟩ v3).setCell ⟨B, 4, none⟩ v4).setCell ⟨B, 5, none⟩ v5).alloc o1).alloc o2) :=
  ((below6 h v0 v1 v2 v3 v4 v5).alloc (by rw [size_set, size_set, size_set, size_set, size_set, size_set]; exact hB) o1).alloc (by simp; omega) o2
abbrev z6 : Obj := .cells #[.int .i64 0, .int .i64 0, .bool false, .bool false, .bool false, .bool false] 46
set_option maxHeartbeats 1000000 in
set_option maxRecDepth 100000 in
theorem rline_none (h : RK F b lv xs n w) {c : Int} (hc : n.at c = none) : Calls Try.prog 37 #[ptr b, .int .i64 c] w fun e w' => e = .returned (.tuple #[.agg line0, .int .i64 60]) ∧ Below w.heap.size w w' := by
  have H1 := hid_of (has_call (h.below ((Below.refl _ w).alloc (Nat.le_refl _) z6)) c)
  rw [hc] at H1
  simp only [Option.isSome_none] at H1
  clear h hc
  go_enter Try.func37, Try.ntmps37
  go_wp2_with fail
  refine H1.out.mono ?_
  rintro e w1 ⟨rfl, rfl⟩
  go_wp2_with fail
  refine bodyPost_ret (v := .tuple #[.agg line0, .int .i64 60]) (by simp [results, Try.results37, go_sem, line0]) rfl ⟨rfl, ?_⟩
  repeat' (first | exact Below.refl _ _ | refine Below.setCell ?_ (Nat.le_refl _) _ | refine Below.alloc ?_ (Nat.le_refl _) _)
set_option maxHeartbeats 2000000 in
set_option maxRecDepth 100000 in
theorem rline_some (h : RK F b lv xs n w) (ok : Ok n) {i : Nat} {k : Cn} (hk : n.cs[i]? = some k) (hz : k.wrote.length ≤ 140737488355328) (hz2 : k.sent.length ≤ 140737488355328) : Calls Try.prog 37 #[ptr b, .int .i64 (i : Int)] w fun e w' => e = .returned (.tuple #[.agg (lineC k), .int .i64 0]) ∧ Below w.heap.size w w' := by
  have hil : i < n.cs.length := (List.getElem?_eq_some_iff.1 hk).1
  have hat : n.at (i : Int) = some k := by rw [at_nat]; exact hk
  have h' := h.below ((Below.refl _ w).alloc (Nat.le_refl _) z6)
  have H1 := hid_of (has_call h' (i : Int))
  rw [hat] at H1
  simp only [Option.isSome_some] at H1
  obtain ⟨g, cap, r⟩ := h'.at hk
  have q := ok.at hat
  have q1 := q.tk
  have q2 := q.rd
  obtain ⟨A, hA⟩ : ∃ A, A = w.alloc z6 := ⟨_, rfl⟩
  have HE := hid_of hA
  have hBA : w.heap.size < A.heap.size := by rw [hA]; simp
  have vB : A.heap[w.heap.size]? = some z6 := by rw [hA]; exact heap_alloc_new w _
  rw [← hA] at r H1
  have c1 := r.c1
  obtain ⟨s, hs⟩ : ∃ s, s = mk k.sent := ⟨_, rfl⟩
  obtain ⟨t, ht⟩ : ∃ t, t = mk k.wrote := ⟨_, rfl⟩
  have hsz : s.size = k.sent.length := by rw [hs, mk_size]
  have htz : t.size = k.wrote.length := by rw [ht, mk_size]
  have x0 : A.cell? ⟨g, i * 8, none⟩ = some (.string s) := by rw [hs]; exact r.cell 0 (by omega)
  have x1 : A.cell? ⟨g, i * 8 + 1, none⟩ = some (.string t) := by rw [ht]; exact r.cell 1 (by omega)
  have x2 : A.cell? ⟨g, i * 8 + 2, none⟩ = some (.int .i64 k.rd) := r.cell 2 (by omega)
  have x3 : A.cell? ⟨g, i * 8 + 3, none⟩ = some (.int .i64 k.tk) := r.cell 3 (by omega)
  have x4 : A.cell? ⟨g, i * 8 + 4, none⟩ = some (.bool (decide (i < n.acc))) := r.cell 4 (by omega)
  have x5 : A.cell? ⟨g, i * 8 + 5, none⟩ = some (.bool k.ended) := r.cell 5 (by omega)
  have x6 : A.cell? ⟨g, i * 8 + 6, none⟩ = some (.bool k.closed) := r.cell 6 (by omega)
  have x7 : A.cell? ⟨g, i * 8 + 7, none⟩ = some (.bool k.cut) := r.cell 7 (by omega)
  have t0 : A.cell? ⟨w.heap.size, 0, none⟩ = some (.int .i64 0) := Lib.cell_of_heap vB 0
  have t1 : A.cell? ⟨w.heap.size, 1, none⟩ = some (.int .i64 0) := Lib.cell_of_heap vB 1
  have t2 : A.cell? ⟨w.heap.size, 2, none⟩ = some (.bool false) := Lib.cell_of_heap vB 2
  have t3 : A.cell? ⟨w.heap.size, 3, none⟩ = some (.bool false) := Lib.cell_of_heap vB 3
  have t4 : A.cell? ⟨w.heap.size, 4, none⟩ = some (.bool false) := Lib.cell_of_heap vB 4
  have t5 : A.cell? ⟨w.heap.size, 5, none⟩ = some (.bool false) := Lib.cell_of_heap vB 5
  have hf : ∀ j, A.frozen? ⟨w.heap.size, j, none⟩ = false := fun j => Lib.frozen_of_heap vB j
  obtain ⟨L, hL⟩ : ∃ L, L = k.left := ⟨_, rfl⟩
  obtain ⟨U, hU⟩ : ∃ U, U = k.unread := ⟨_, rfl⟩
  have g1 : IntKind.i64.wrap ((t.size : Int) - (k.tk : Int)) = (L : Int) := by rw [IntWalk.i64_in _ (by omega), hL]; unfold Cn.left; omega
  have g2 : IntKind.i64.wrap ((s.size : Int) - (k.rd : Int)) = (U : Int) := by rw [IntWalk.i64_in _ (by omega), hU]; unfold Cn.unread; omega
  have HL : Hid (lineC k = #[.int .i64 ((if k.closed || k.cut then 0 else U : Nat) : Int), .int .i64 (L : Int), .bool false, .bool k.closed, .bool k.ended, .bool k.cut]) := by rw [hU, hL]; rfl
  have VB : Hid (Below w.heap.size w A) := by rw [hA]; exact (Below.refl _ w).alloc (Nat.le_refl _) _
  have h0 : (0 : Int) ≤ (i : Int) := by omega
  have h3 : (i : Int) < (n.cs.length : Int) := by omega
  have hne : w.heap.size ≠ A.heap.size := by omega
  have hne1 : A.heap.size ≠ w.heap.size := by omega
  have hne2 : w.heap.size ≠ A.heap.size + 1 := by omega
  have hne3 : A.heap.size + 1 ≠ w.heap.size := by omega
  obtain ⟨e', he'⟩ : ∃ e', e' = k.ended := ⟨_, rfl⟩
  obtain ⟨c', hc'⟩ : ∃ c', c' = k.closed := ⟨_, rfl⟩
  obtain ⟨u', hu'⟩ : ∃ u', u' = k.cut := ⟨_, rfl⟩
  rw [← he', ← hc', ← hu'] at HL
  rw [← he'] at x5
  rw [← hc'] at x6
  rw [← hu'] at x7
  have HB := hid_of hBA
  have hBA2 : w.heap.size < A.heap.size + 1 := by omega
  clear h h' r hk hat q q1 q2 hA vB hs ht hsz htz hL hU he' hc' hu' ok hz hz2
  go_enter Try.func37, Try.ntmps37
  go_wp2_with fail
  rw [← HE.out]
  refine H1.out.mono ?_
  rintro e w1 ⟨rfl, rfl⟩
  cases c'
  · cases u'
    · go_wp2_with fail
      refine bodyPost_ret (v := .tuple #[.agg (lineC k), .int .i64 0]) (by rw [HL.out]; simp [results, Try.results37, go_sem, t0, t1, t2, t3, t4, t5, hBA, hBA2]) rfl ⟨rfl, ?_⟩
      exact below6a VB.out (Nat.le_of_lt HB.out) _ _ _ _ _ _ _ _
    · go_wp2_with fail
      refine bodyPost_ret (v := .tuple #[.agg (lineC k), .int .i64 0]) (by rw [HL.out]; simp [results, Try.results37, go_sem, t0, t1, t2, t3, t4, t5, hBA, hBA2]) rfl ⟨rfl, ?_⟩
      exact below6a VB.out (Nat.le_of_lt HB.out) _ _ _ _ _ _ _ _
  · go_wp2_with fail
    refine bodyPost_ret (v := .tuple #[.agg (lineC k), .int .i64 0]) (by rw [HL.out]; simp [results, Try.results37, go_sem, t0, t1, t2, t3, t4, t5, hBA, hBA2]) rfl ⟨rfl, ?_⟩
    exact below6a VB.out (Nat.le_of_lt HB.out) _ _ _ _ _ _ _ _
theorem rline_call (h : RK F b lv xs n w) (ok : Ok n) (c : Int) (hz : ∀ k, n.at c = some k → k.wrote.length ≤ 140737488355328 ∧ k.sent.length ≤ 140737488355328) : Calls Try.prog 37 #[ptr b, .int .i64 c] w fun e w' => e = .returned (.tuple #[lineV n c, .int .i64 (lineE n c)]) ∧ Below w.heap.size w w' := by
  rcases at_cases n c with ⟨h1, -⟩ | ⟨i, k, rfl, hi, hk, h1⟩
  · unfold lineV lineE
    rw [h1]
    exact rline_none h h1
  · have := hz k h1
    unfold lineV lineE
    rw [h1]
    exact rline_some h ok hk this.1 this.2
end
end Go.Proofs.Ythmfgnagpifnlaa.RefLine
