/- The law's do at 1. -/
import Derived.Test.YtdmjfmojacnbeaaEoB
namespace Go.Proofs.Ytdmjfmojacnbeaa.EoC
open Go.RowKit
open Go.Proofs.Ytdmjfmojacnbeaa.Base
open Go.Proofs.Ytdmjfmojacnbeaa.Held
open Go.Proofs.Ytdmjfmojacnbeaa.Lay
open Go.Proofs.Ytdmjfmojacnbeaa.Free
open Go.Proofs.Ytdmjfmojacnbeaa.Keep
open Go.Proofs.Ytdmjfmojacnbeaa.Pop
open Go.Proofs.Ytdmjfmojacnbeaa.Place
open Go.Proofs.Ytdmjfmojacnbeaa.Piece
open Go.Proofs.Ytdmjfmojacnbeaa.App
open Go.Proofs.Ytdmjfmojacnbeaa.FindMath
open Go.Proofs.Ytdmjfmojacnbeaa.Find
open Go.Proofs.Ytdmjfmojacnbeaa.FindA
open Go.Proofs.Ytdmjfmojacnbeaa.DropC
open Go.Proofs.Ytdmjfmojacnbeaa.Remove
open Go.Proofs.Ytdmjfmojacnbeaa.Insert
open Go.Proofs.Ytdmjfmojacnbeaa.Same
open Go.Proofs.Ytdmjfmojacnbeaa.Awake
open Go.Proofs.Ytdmjfmojacnbeaa.Ends
open Go.Proofs.Ytdmjfmojacnbeaa.Ref
open Go.Proofs.Ytdmjfmojacnbeaa.RefB
open Go.Proofs.Ytdmjfmojacnbeaa.RefC
open Go.Proofs.Ytdmjfmojacnbeaa.EoA
open Go.Proofs.Ytdmjfmojacnbeaa.EoB
open Go.Proofs.Ytdmjfmojacnbeaa.Push
open Go.Proofs.Ytdmjfmojacnbeaa.Front
set_option linter.unusedVariables false
set_option linter.unusedSimpArgs false
set_option maxHeartbeats 4000000 in
set_option maxRecDepth 100000 in
theorem do_1 {F : Nat → Prop} {B : Cx} {b : Nat} {l m : List El} {u : Value} {la : Option Addr} {lc : Nat} {w0 w : World} (h : Sx F B b l u w0 w) (hm : SL B.Lo w (.slice la m.length lc) m) (A Bq C : Int) (bf : Bool) (hA : In A) (hBq : In Bq) (hb : 3 * (l.length + m.length) ≤ 4194304) :
    Calls Try.prog 11 #[ptr b, u, .agg (box 1 A Bq C (.slice la m.length lc) bf)] w (DoE B b (doS l ⟨1, m, A, Bq, C, bf⟩) w0) := by
  obtain ⟨v1, w1, g, gc, w2, hrun1, hrun2, hgv, hg, hbx, k2⟩ := given_run 1 A Bq C bf hm (by omega)
  have E2 := hid_of (h.read k2)
  have c0 : w2.cell? ⟨w.heap.size, 0, none⟩ = some (.int .i64 1) := Lib.cell_of_heap hbx 0
  have c2 : w2.cell? ⟨w.heap.size, 2, none⟩ = some (.int .i64 A) := Lib.cell_of_heap hbx 2
  have c3 : w2.cell? ⟨w.heap.size, 3, none⟩ = some (.int .i64 Bq) := Lib.cell_of_heap hbx 3
  have c5 : w2.cell? ⟨w.heap.size, 5, none⟩ = some (.bool bf) := Lib.cell_of_heap hbx 5
  have HBx := hid_of hbx
  have hX : Hid (∀ k, F k → k < w.heap.size) := fun k e => (h.ow k e).2
  have hXw : w.heap.size < w2.heap.size := lt_of hbx
  obtain ⟨u1, u2, u3, rfl⟩ : ∃ u1 u2 u3, u = .slice u1 u2 u3 := by
    obtain ⟨a, c, e, _⟩ := h.sl
    exact ⟨a, _, c, e⟩
  have HA := hid_of hA
  have HBq := hid_of hBq
  have HL := hid_of (show (l.length + 1) * 8 ≤ 140737488355328 ∧ (3 * l.length + 2) * 8 ≤ 281474976710656 ∧ l.length ≤ 35184372088832 by omega)
  have c1 : w2.cell? ⟨w.heap.size, 1, none⟩ = some (.slice la m.length lc) := Lib.cell_of_heap hbx 1
  obtain ⟨xs, hrow, hxl, hgc, hxt⟩ := hgv
  have hgv2 : SL (fun k => k = g) w2 (.slice (some ⟨g, 0, none⟩) m.length gc) m := by
    refine ⟨_, _, rfl, by omega, .inr ⟨g, 0, rfl, rfl, fun j x hj => ?_⟩⟩
    have hjm : j < m.length := (List.getElem?_eq_some_iff.1 hj).1
    have := congrArg (fun q => q[j]?) hxt
    simp only [List.getElem?_take, if_pos (show j < m.length + 1 by omega), List.getElem?_append_left hjm, hj] at this
    rw [hrow.cell, Nat.zero_add, this]; rfl
  have h77 : xs[m.length]? = some (77 : El) := by
    have := congrArg (fun q => q[m.length]?) hxt
    simpa using this
  have hcut := cut_hi (some ⟨g, 0, none⟩) (m.length + 1) gc m.length (m.length : Int) rfl (by omega)
  have nFg : ¬ F g := fun e => by have := (h.ow g e).2; omega
  have nFX : ¬ F w.heap.size := fun e => Nat.lt_irrefl _ (h.ow _ e).2
  have hgX : w.heap.size ≠ g := by omega
  have HU : Hid (SL (fun k => ¬ F k ∧ k < w.heap.size) w2 (.slice u1 u2 u3) l) := by
    obtain ⟨a, c, e, hc, hr⟩ := h.sl
    exact SL.below (w := w) ⟨a, c, e, hc, hr.lt.mono fun k _ e => ⟨e.1.1, e.2⟩⟩ k2
  have HM : Hid (SL B.Lo w2 (.slice la m.length lc) m) := hm.below k2
  have hB : Hid (∀ k, B.Lo k → k < w.heap.size) := h.lo
  have HG := hid_of (And.intro hgv2 (And.intro hrow (And.intro hxl (And.intro hgc h77))))
  have bm : m.length ≤ 1048576 * 4 := by omega
  have HPB := hid_of (show (2 * (l.length + m.length) + l.length) * 8 ≤ 281474976710656 ∧ (l.length + m.length) * 8 ≤ 140737488355328 by omega)
  clear hgv2 hrow hxl hxt h77 hgc
  have HP := hid_of (pushBack_call E2.out.dq (HG.out.1.mono fun k _ e c => nFg (by rw [← e]; exact c)) HPB.out.1)
  clear h hm hbx k2 hA hBq hb
  go_enter Try.func11, Try.ntmps11
  go_wp2_with (first | (at_builtin; refine wpl_eq rfl _ _ 22 22 rfl (.slice none 0 0) (.slice la m.length lc) v1 _ w1 rfl rfl hrun1 ?_; clear hrun1) | (at_builtin; refine wpl_eq rfl _ _ 22 22 rfl v1 (.slice (some ⟨w1.heap.size, 0, none⟩) 1 1) (.slice (some ⟨g, 0, none⟩) (m.length + 1) gc) _ w2 rfl rfl hrun2 ?_; clear hrun2))
  refine HP.out.mono ?_
  rintro e w3 ⟨rfl, q3, f3⟩
  have hgw := HG.out.2.1.lt
  have r3 : RowIs w3 g xs := (f3.block g hgw nFg).trans HG.out.2.1
  have d1 : w3.cell? ⟨w.heap.size, 1, none⟩ = some (.slice la m.length lc) := Lib.cell_of_heap ((f3.block _ hXw nFX).trans HBx.out) 1
  have d77 : w3.cell? ⟨g, m.length, none⟩ = some (.int .i64 77) := by rw [r3.cell, HG.out.2.2.2.2]; rfl
  have HSm := hid_of (fun j => same_call (w := w3.drewN j) ((HG.out.1.keep (w' := w3) fun k hk e => by rw [e]; exact f3.block g hgw nFg).drewN j) ((HM.out.keep (w' := w3) fun k hk e => f3.block k hk fun c => (E2.out.ow k c).1 e).drewN j) rfl (by omega))
  have E3 := hid_of (And.intro q3 (And.intro f3 r3))
  clear q3 f3 r3 c0 c1 c2 c3 c5
  go_wp2_with fail
  go_quiet (first | exact Calls.quiet_of (HSm.out _))
  go_wp2_with fail
  have hgcl := HG.out.2.2.2.1
  have hxsl := HG.out.2.2.1
  go_loopg [10] (m.length + 1) (fun gh s10 wx => ∃ (i : Nat) (ys : List El), i ≤ m.length + 1 ∧ m.length + 1 ≤ i + gh ∧ s10 = .int .i64 (i : Int) ∧ Hid (RowIs wx g ys ∧ ys.length = gc ∧ Fr (fun k => k = g) w3 wx))
  case atStart => exact ⟨0, xs, by omega, by omega, rfl, ⟨E3.out.2.2.drewN nq, HG.out.2.2.1, (Fr.refl _ _).drewN nq⟩⟩
  case round =>
    obtain ⟨i, ys, hi, hgh, rfl, R⟩ := hrel
    by_cases hlt : i < m.length + 1
    · obtain ⟨g', rfl⟩ : ∃ g', gk = g' + 1 := ⟨gk - 1, by omega⟩
      obtain ⟨hr, hyl, fr⟩ := R.out
      obtain ⟨y, cy⟩ : ∃ y, wr.cell? ⟨g, i, none⟩ = some (V y) := ⟨_, by rw [hr.cell, List.getElem?_eq_getElem (by omega)]; rfl⟩
      have zy : wr.frozen? ⟨g, i, none⟩ = false := hr.frozen i
      have HX := hid_of (And.intro (hr.set i 78) (And.intro (show (ys.set i 78).length = gc by rw [List.length_set]; exact hyl) (fr.trans (Fr.set (F := Gr (fun k => k = g) w3) (i := i) (.inl rfl) (V 78)))))
      clear R hr hyl fr
      go_wp2_with fail
      go_roundg g'
      case measure => omega
      case rel => exact ⟨i + 1, _, by omega, by omega, by simp, HX⟩
    · obtain ⟨hr, hyl, fr⟩ := R.out
      have sz3 : w2.heap.size ≤ w3.heap.size := E3.out.2.1.size
      have x3 : w3.heap[w.heap.size]? = w2.heap[w.heap.size]? := E3.out.2.1.block _ hXw nFX
      have d1r : wr.cell? ⟨w.heap.size, 1, none⟩ = some (.slice la m.length lc) := Lib.cell_of_heap ((fr.block _ (by omega) hgX).trans (x3.trans HBx.out)) 1
      have su : SL (fun k => ¬ F k ∧ k < w.heap.size) wr (.slice u1 u2 u3) l := (HU.out.keep (w' := w3) fun k hk e => E3.out.2.1.block k hk e.1).keep fun k hk e => fr.block k hk (by rintro rfl; omega)
      have sm : SL B.Lo wr (.slice la m.length lc) m := (HM.out.keep (w' := w3) fun k hk e => E3.out.2.1.block k hk fun c => (E2.out.ow k c).1 e).keep fun k hk e => fr.block k hk (by rintro rfl; have := hB.out _ e; omega)
      have HJ := hid_of (joined_call su sm HPB.out.2)
      have q5 : DQ (fun k => Gr F w2 k ∧ k < w3.heap.size) b (l ++ m) wr := E3.out.1.low.keep fun k hk e => fr.block k e.2 (by
        rintro rfl
        rcases e.1 with c | c
        · exact nFg c
        · omega)
      have b5 : Fr (fun k => ¬ B.Lo k) w0 wr := (E2.out.fb E3.out.2.1).trans (fr.mono fun k _ c => .inl fun q => by have := hB.out k q; rw [c] at this; omega)
      have s5 : w3.heap.size ≤ wr.heap.size := fr.size
      have Q5 := hid_of (And.intro q5 (And.intro b5 (And.intro s5 sz3)))
      clear R hr hyl fr x3 su sm q5 b5 s5 sz3
      go_wp2_with fail
      refine HJ.out.mono ?_
      rintro e w6 ⟨r6, rfl, n6, k6⟩
      have N6 := hid_of (And.intro n6 k6)
      clear n6 k6
      go_wp2_with fail
      go_ret2
      obtain ⟨q5, b5, s5, sz3⟩ := Q5.out
      obtain ⟨n6, k6⟩ := N6.out
      have sz2 := E2.out.xw
      have sz4 := hB.out
      refine ⟨r6, rfl, _, ⟨q5.below k6, n6.sl.mono fun k _ e => ⟨fun c => by have := c.2; omega, fun c => by have := sz2 k c; omega⟩, fun k e => ⟨?_, by have := e.2; have := k6.size; omega⟩, fun k e => by have := sz2 k e; have := k6.size; omega, fun k e => by have := sz4 k e; have := k6.size; omega, b5.trans (Fr.of_below k6)⟩⟩
      rcases e.1 with c | c
      · exact (E2.out.ow k c).1
      · exact fun q => by have := sz4 k q; omega
end Go.Proofs.Ytdmjfmojacnbeaa.EoC
