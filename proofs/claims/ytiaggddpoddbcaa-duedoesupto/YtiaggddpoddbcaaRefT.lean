/- The document's Take. -/
import Derived.Test.YtiaggddpoddbcaaRefP
namespace Go.Proofs.Ytiaggddpoddbcaa.RefT
open Go.RowKit Go.Maps Go.Shelf
open Go.Proofs.Ytiaggddpoddbcaa.HeapMath
open Go.Proofs.Ytiaggddpoddbcaa.Heap
open Go.Proofs.Ytiaggddpoddbcaa.Turn
open Go.Proofs.Ytiaggddpoddbcaa.Before
open Go.Proofs.Ytiaggddpoddbcaa.RowB
open Go.Proofs.Ytiaggddpoddbcaa.Peek
open Go.Proofs.Ytiaggddpoddbcaa.Take
open Go.Proofs.Ytiaggddpoddbcaa.RefP
set_option linter.unusedVariables false
set_option linter.unusedSimpArgs false
theorem YL.cut {w : World} {a : Option Addr} {c : Nat} {S : Es} (h : YL w (.slice a S.length c) S) (n : Nat) (hn : n ≤ S.length) : YL w (.slice (a.map (fun x => x.add (n * 2))) (S.length - n) (c - n)) (S.drop n) := by
  obtain ⟨a', c', e, hc, h2⟩ := h
  injection e with e1 e2 e3
  subst e1
  subst e3
  refine ⟨_, _, by rw [List.length_drop], by rw [List.length_drop]; omega, fun i hi => ?_⟩
  rw [List.length_drop] at hi
  obtain ⟨g, o, rfl, q1, q2, q3⟩ := h2 (n + i) (by omega)
  refine ⟨g, o + n * 2, by simp [Addr.add], ?_, ?_, q3⟩
  · rw [List.getElem_drop, show o + n * 2 + i * 2 = o + (n + i) * 2 by omega]; exact q1
  · rw [List.getElem_drop, show o + n * 2 + i * 2 + 1 = o + (n + i) * 2 + 1 by omega]; exact q2
theorem YL.cut0 {w : World} {a b : Option Addr} {c : Nat} {S : Es} (n : Nat) (hn : S.length - n = 0) : YL w (.slice b (S.length - n) c) (S.drop n) := by
  refine ⟨b, c, by rw [List.length_drop], by rw [List.length_drop]; omega, fun i hi => ?_⟩
  rw [List.length_drop] at hi
  omega
theorem row_set {W : World} {B n y : Nat} {v u : Value} {xs : List Value} {cs : Array Value} (h : W.ownsRow B 9 1 v n xs) (hy : W.heap[y]? = some (.cells cs 28 (0, 0))) : (W.setCell ⟨y, 0, none⟩ u).ownsRow B 9 1 v n xs := by
  refine ⟨h.1, h.2.imp id ?_⟩
  rintro ⟨g', cap, cur, e', hb, hg', r⟩
  refine ⟨g', cap, cur, e', hb, (set_ne (fun q => ?_) _).trans hg', r⟩
  rw [q, hy] at hg'
  injection hg' with hg'
  injection hg' with _ hg'
  cases hg'
set_option maxHeartbeats 2000000 in
set_option maxRecDepth 100000 in
theorem rtake_call {y : Nat} {v : Value} {S : Es} {w : World} (hy : w.heap[y]? = some (.cells #[v] 28 (0, 0))) (h : YL w v S) (hl : S.length < 1099511627776) (now most : Int) :
    Calls Try.prog 32 #[ptr y, .int .i64 now, .int .i64 most] w fun e w' => ∃ r, e = .returned r ∧ w'.ownsRow w.heap.size 9 1 r (got S now most).length ((keysOf (got S now most)).map sv) ∧ ∃ w1 v', Below w.heap.size w w1 ∧ w' = w1.setCell ⟨y, 0, none⟩ v' ∧ YL w1 v' (S.drop (got S now most).length) := by
  have H := hid_of (rpeek_call (Lib.cell_of_heap hy 0) h hl now most)
  have HY := hid_of (And.intro hy h)
  obtain ⟨n, hn⟩ : ∃ n, n = (got S now most).length := ⟨_, rfl⟩
  have hnS : n ≤ S.length := by rw [hn]; exact (got_pre S now most).length_le
  have HN := hid_of hn
  rw [← hn] at H
  obtain ⟨a, c, rfl, hc, h2⟩ := h
  clear hy h2 hn
  unfold ptr at *
  go_enter Try.func32, Try.ntmps32
  go_wp2_with fail
  refine H.out.mono ?_
  rintro e w1 ⟨r, rfl, o1, b1⟩
  obtain ⟨ar, cr, rfl⟩ := kshape o1
  have hy1 : w1.heap[y]? = some (.cells #[.slice a S.length c] 28 (0, 0)) := (b1.block y (lt_of HY.out.1)).trans HY.out.1
  have cy := Lib.cell_of_heap hy1 0
  have fy := Lib.frozen_of_heap hy1 0
  have d1 : (n : Int) ≤ (S.length : Int) := by omega
  have HO := hid_of (And.intro o1 (And.intro b1 hy1))
  clear o1 b1 hy1 H
  go_wp2_with fail
  all_goals
    go_ret
    refine ⟨_, rfl, by rw [← HN.out]; exact row_set HO.out.1 HO.out.2.2, w1, HO.out.2.1, _, rfl, ?_⟩
    rw [← HN.out]
    first
      | exact YL.cut (HY.out.2.below HO.out.2.1) n hnS
      | exact YL.cut0 (a := a) n (by omega)
end Go.Proofs.Ytiaggddpoddbcaa.RefT
