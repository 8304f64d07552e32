/- Find of the program, walked. Find of the document. -/
import Derived.Test.YtpibeabokedpdaaGreatDoorIterRM
import Derived.Deep.RegionHeld3
section
namespace Go.Proofs.YtpibeabokedpdaaGreatDoor.FindC
open Go.RowKit
open Go.Proofs.YtpibeabokedpdaaGreatDoor.Tab
open Go.Proofs.YtpibeabokedpdaaGreatDoor.Base
open Go.Proofs.YtpibeabokedpdaaGreatDoor.Sect
open Go.Proofs.YtpibeabokedpdaaGreatDoor.Range
open Go.Proofs.YtpibeabokedpdaaGreatDoor.Thr
open Go.Proofs.YtpibeabokedpdaaGreatDoor.IterR
open Go.Proofs.YtpibeabokedpdaaGreatDoor.Low
open Go.Proofs.YtpibeabokedpdaaGreatDoor.FindP
open Go.Proofs.YtpibeabokedpdaaGreatDoor.RowsL (valS cellsS)
attribute [local go_sem] Oper.semAt_some
set_option linter.unusedVariables false
set_option linter.unusedSimpArgs false
theorem res_find {W : World} {T : Nat} {s : Tab.Bs} {r : Sc} {b : Bool} {tm : Array Value} (h1 : W.heap[T]? = some (.cells (cellsS r).toArray 81 (0, 0))) (h2 : W.heap[T + 1]? = some (.cells #[.bool b] 4 (0, 0))) (hv : fnd s = (r, b))
    (e2 : tm[2]?.getD undef = .pointer (some ⟨T, 0, none⟩) := by rfl) (e3 : tm[3]?.getD undef = .pointer (some ⟨T + 1, 0, none⟩) := by rfl) : (results Tryz.f91 tm).run Tryz.prog W = .ok (findV s) W := by
  have c0 : W.cell? ⟨T, 0, none⟩ = some (.string (mk r.name)) := Lib.cell_of_heap h1 0
  have c1 : W.cell? ⟨T, 1, none⟩ = some (.int .i64 r.arity) := Lib.cell_of_heap h1 1
  have c2 : W.cell? ⟨T, 2, none⟩ = some (.bool r.wr) := Lib.cell_of_heap h1 2
  have c3 : W.cell? ⟨T, 3, none⟩ = some (.bool r.ct) := Lib.cell_of_heap h1 3
  have c4 : W.cell? ⟨T, 4, none⟩ = some (.int .i64 r.first) := Lib.cell_of_heap h1 4
  have c5 : W.cell? ⟨T, 5, none⟩ = some (.int .i64 r.last) := Lib.cell_of_heap h1 5
  have c6 : W.cell? ⟨T, 6, none⟩ = some (.int .i64 r.step) := Lib.cell_of_heap h1 6
  have d0 : W.cell? ⟨T + 1, 0, none⟩ = some (.bool b) := Lib.cell_of_heap h2 0
  unfold findV
  rw [hv]
  unfold valS cellsS
  simp [results, Tryz.results91, go_sem, e2, e3, c0, c1, c2, c3, c4, c5, c6, d0]
theorem KeepsFrom.of_below {B : Nat} {A A' : World} (h : Below A.heap.size A A') : KeepsFrom B A A' := ⟨h.size, fun k o _ ho _ => (h.block k (lt_of ho)).trans ho⟩
set_option maxHeartbeats 4000000 in
set_option maxRecDepth 100000 in
theorem find_call (l : Tab.Bs) (w : World) (hl : l.length < 9223372036854775808) : Calls Tryz.prog 91 #[.string (mk l)] w fun e w' => e = .returned (findV (l.map low)) ∧ Below w.heap.size w w' := by
  have HL := hid_of (fun w => lower_call l w hl)
  obtain ⟨s, hs⟩ : ∃ s, s = l.map low := ⟨_, rfl⟩
  rw [← hs] at HL ⊢
  clear hl hs
  generalize mk l = L0 at *
  refine (callsIn_wide (n := 5)).1 ?_
  refine callsIn_of_wp_marks Tryz.func91 rfl trivial ?_ rfl
  simp only [Tryz.ntmps91, List.size_toArray, List.length_cons, List.length_nil, Nat.reduceAdd, Nat.reduceSub, Array.replicate_succ, Array.replicate_zero, List.push_toArray, List.append_toArray, List.nil_append, List.cons_append]
  gi_wp2_with fail
  obtain ⟨W0, hW0⟩ : ∃ W0, W0 = (w.alloc (.cells #[.string ⟨#[]⟩, .int .i64 0, .bool false, .bool false, .int .i64 0, .int .i64 0, .int .i64 0] 81)).alloc (.cells #[.bool false] 4) := ⟨_, rfl⟩
  rw [← hW0]
  refine ⟨trivial, callsIn_wide.2 ((HL.out _).mono ?_)⟩
  rintro e w1 ⟨rfl, b1⟩
  obtain ⟨T, hT⟩ : ∃ T, T = w.heap.size := ⟨_, rfl⟩
  obtain ⟨S, hS⟩ : ∃ S, S = w1.heap.size := ⟨_, rfl⟩
  obtain ⟨w2, hw2⟩ : ∃ w2, w2 = w1.alloc (.cells #[.string (mk s)] 9) := ⟨_, rfl⟩
  have z0 : W0.heap.size = T + 2 := by rw [hW0, hT]; simp
  have z2 : w2.heap.size = S + 1 := by rw [hw2, hS]; simp
  have hP : FI w (S + 1) T S s noSc false w2 := by
    have a1 : Below w.heap.size w (w.alloc (.cells #[.string ⟨#[]⟩, .int .i64 0, .bool false, .bool false, .int .i64 0, .int .i64 0, .int .i64 0] 81)) := (Below.refl _ w).alloc (Nat.le_refl _) _
    have a0 : Below w.heap.size w W0 := by rw [hW0]; exact a1.alloc a1.size _
    have b2 : Below w1.heap.size w1 w2 := by rw [hw2]; exact (Below.refl _ w1).alloc (Nat.le_refl _) _
    have s1 := b1.size
    have n0 : W0.heap[T]? = some (.cells (cellsS noSc).toArray 81 (0, 0)) := by
      rw [hW0, Below.heap_alloc _ _ _ (by rw [hT]; simp), hT]; exact heap_alloc_new w _
    have n1 : W0.heap[T + 1]? = some (.cells #[.bool false] 4 (0, 0)) := by
      rw [hW0, hT]
      have := heap_alloc_new (w.alloc (.cells #[.string ⟨#[]⟩, .int .i64 0, .bool false, .bool false, .int .i64 0, .int .i64 0, .int .i64 0] 81)) (.cells #[.bool false] 4)
      simpa using this
    have n2 : w2.heap[S]? = some (.cells #[.string (mk s)] 9 (0, 0)) := by rw [hw2, hS]; exact heap_alloc_new w1 _
    have hSS : T + 2 ≤ S := by rw [hS, ← z0]; exact s1
    refine ⟨a0.trans ((b1.mono a0.size).trans (b2.mono (Nat.le_trans a0.size s1))), by omega, ?_, ?_, n2, by omega, by omega, by omega, by omega, by omega⟩
    · rw [b2.block _ (by omega), b1.block _ (by omega)]; exact n0
    · rw [b2.block _ (by omega), b1.block _ (by omega)]; exact n1
  have HP := hid_of hP
  have HZ := hid_of z2
  have HT := hid_of hT
  rw [← hT]
  clear hP z2 hT z0 hW0 b1
  gi_wp2_with fail
  rw [← hw2, ← hS]
  clear hw2 hS
  apply range_own (n := 5) (P := Tryz.prog) (w := w2) (by decide) (gf := 137) (lb := #[]) rfl (enters_of Tryz.func137 (by kernel_rfl) rfl) (Kp := Kp) (R := Gw) (encs := fun x : Rw => #[valR x]) (S := fun xs => xs = allRows) (Sp := fun pre => pre <+: allRows) (N := 118) (w0 := w2)
    (I := fun pre W => FI w (S + 1) T S s noSc false W ∧ ∀ x ∈ pre, x.name ≠ s)
    (Ix := fun cd pre W => cd = .ret ∧ ∃ p x, pre = p ++ [x] ∧ x.name = s ∧ (∀ y ∈ p, y.name ≠ s) ∧ FI w (S + 1) T S s (spec x) true W)
    (A := fun x W => W.alloc (.cells #[.string (mk x.name), .int .i64 x.arity, .int .i64 x.part, .int .i64 x.first, .int .i64 x.last, .int .i64 x.step] 197))
  case hassign =>
    intro lp x W K hK
    unfold valR cellsR
    gi_wp2_with fail
    exact hK
  case hseq => exact rows_seq 4 w2
  case hb0 => exact Below.refl _ _
  case hps => exact fun _ => rfl
  case hRo => exact fun B A A' k o hr hk ho => (Below.block hr k (Array.getElem?_eq_some_iff.1 hk).1).trans hk
  case hKt => exact fun h k => h.trans k
  case hKb =>
    intro W k o o' hk ho hc
    refine ⟨by simp [World.putObj], fun j cs fz e => World.putObj_heap_other ?_⟩
    rintro rfl; rw [ho] at e; cases e; cases hc
  case hI => rw [HZ.out]; exact fun pre W W' row h hg hr => ⟨h.1.grown hg hr, h.2⟩
  case hIx =>
    intro cd
    rw [HZ.out]
    rintro pre W W' row ⟨e, p, x, h1, h2, h3, h4⟩ hg hr
    exact ⟨e, p, x, h1, h2, h3, h4.grown hg hr⟩
  case hIR => exact fun pre A A' h hr => ⟨h.1.below hr, h.2⟩
  case hIxR =>
    rintro cd pre A A' ⟨e, p, x, h1, h2, h3, h4⟩ hr
    exact ⟨e, p, x, h1, h2, h3, h4.below hr⟩
  case h0 => exact ⟨HP.out, by simp⟩
  case hA => exact fun x W => (Below.refl _ W).alloc (Nat.le_refl _) _
  case hAI => exact fun pre x W h => ⟨h.1.below ((Below.refl _ W).alloc (Nat.le_refl _) _), h.2⟩
  case hAK => exact fun pre x W h => Kp.of_below ((Below.refl _ W).alloc (Nat.le_refl _) _)
  case hbody =>
    rintro lp pre x W V hWs ⟨hF, hno⟩ hpl hVs hV
    have hE : V.heap[W.heap.size]? = some (.cells #[.string (mk x.name), .int .i64 x.arity, .int .i64 x.part, .int .i64 x.first, .int .i64 x.last, .int .i64 x.step] 197 (0, 0)) := (hV _ (Nat.le_refl _)).trans (heap_alloc_new W _)
    obtain ⟨E, hEE⟩ : ∃ E, E = W.heap.size := ⟨_, rfl⟩
    rw [← hEE] at hE ⊢
    have e0 : V.cell? ⟨E, 0, none⟩ = some (.string (mk x.name)) := Lib.cell_of_heap hE 0
    have e1 : V.cell? ⟨E, 1, none⟩ = some (.int .i64 x.arity) := Lib.cell_of_heap hE 1
    have e2 : V.cell? ⟨E, 2, none⟩ = some (.int .i64 x.part) := Lib.cell_of_heap hE 2
    have e3 : V.cell? ⟨E, 3, none⟩ = some (.int .i64 x.first) := Lib.cell_of_heap hE 3
    have e4 : V.cell? ⟨E, 4, none⟩ = some (.int .i64 x.last) := Lib.cell_of_heap hE 4
    have e5 : V.cell? ⟨E, 5, none⟩ = some (.int .i64 x.step) := Lib.cell_of_heap hE 5
    have cs : V.cell? ⟨S, 0, none⟩ = some (.string (mk s)) := Lib.cell_of_heap hF.sm 0
    have HF := hid_of hF
    have HNo := hid_of hno
    by_cases hx : x.name = s
    · have hc := str_yes s
      rw [hx] at e0
      have HX := hid_of hx
      have HSp := hid_of (spec_call x V)
      rw [show valR x = .agg #[.string (mk s), .int .i64 x.arity, .int .i64 x.part, .int .i64 x.first, .int .i64 x.last, .int .i64 x.step] from by rw [← hx]; rfl, show valS (spec x) = .agg #[.string (mk s), .int .i64 (spec x).arity, .bool (spec x).wr, .bool (spec x).ct, .int .i64 (spec x).first, .int .i64 (spec x).last, .int .i64 (spec x).step] from by rw [← hx]; rfl] at HSp
      clear hx hE hV hVs hEE hWs hF hno
      obtain ⟨ms, HMS⟩ : ∃ ms, Hid (ms = mk s) := ⟨_, hid_of rfl⟩
      rw [← HMS.out] at HSp e0 cs hc
      gi_wp2_with fail
      refine ⟨trivial, (CallsIn.inRound lp (callsIn_wide.2 HSp.out)).mono ?_⟩
      rintro e w5 ⟨rfl, b5⟩
      have F5 := HF.out.below b5
      have t0 : w5.cell? ⟨T, 0, none⟩ = some (.string ⟨#[]⟩) := Lib.cell_of_heap F5.t 0
      have t1 : w5.cell? ⟨T, 1, none⟩ = some (.int .i64 0) := Lib.cell_of_heap F5.t 1
      have t2 : w5.cell? ⟨T, 2, none⟩ = some (.bool false) := Lib.cell_of_heap F5.t 2
      have t3 : w5.cell? ⟨T, 3, none⟩ = some (.bool false) := Lib.cell_of_heap F5.t 3
      have t4 : w5.cell? ⟨T, 4, none⟩ = some (.int .i64 0) := Lib.cell_of_heap F5.t 4
      have t5 : w5.cell? ⟨T, 5, none⟩ = some (.int .i64 0) := Lib.cell_of_heap F5.t 5
      have t6 : w5.cell? ⟨T, 6, none⟩ = some (.int .i64 0) := Lib.cell_of_heap F5.t 6
      have f0 : w5.frozen? ⟨T, 0, none⟩ = false := Lib.frozen_of_heap F5.t 0
      have f1 : w5.frozen? ⟨T, 1, none⟩ = false := Lib.frozen_of_heap F5.t 1
      have f2 : w5.frozen? ⟨T, 2, none⟩ = false := Lib.frozen_of_heap F5.t 2
      have f3 : w5.frozen? ⟨T, 3, none⟩ = false := Lib.frozen_of_heap F5.t 3
      have f4 : w5.frozen? ⟨T, 4, none⟩ = false := Lib.frozen_of_heap F5.t 4
      have f5 : w5.frozen? ⟨T, 5, none⟩ = false := Lib.frozen_of_heap F5.t 5
      have f6 : w5.frozen? ⟨T, 6, none⟩ = false := Lib.frozen_of_heap F5.t 6
      have u0 : w5.cell? ⟨T + 1, 0, none⟩ = some (.bool false) := Lib.cell_of_heap F5.tb 0
      have v0 : w5.frozen? ⟨T + 1, 0, none⟩ = false := Lib.frozen_of_heap F5.tb 0
      have HF5 := hid_of (And.intro F5 b5)
      clear F5 b5
      gi_wp2_with fail
      obtain ⟨hq, hk⟩ := HF5.out.1.told (spec x) true rfl
      rw [show (spec x).name = s from HX.out, ← HMS.out] at hq hk
      refine ⟨by rw [HZ.out]; exact (KeepsFrom.of_below HF5.out.2).trans hk, rfl, pre, x, rfl, HX.out, HNo.out, hq⟩
    · have hc := str_no hx
      have HX := hid_of hx
      clear hx hE hV hVs hEE hWs hF hno
      obtain ⟨ms, HMS⟩ : ∃ ms, Hid (ms = mk s) := ⟨_, hid_of rfl⟩
      rw [← HMS.out] at cs hc
      generalize mk x.name = X0 at *
      gi_wp2_with fail
      exact ⟨KeepsFrom.refl _ _, Kp.of_below (Below.refl _ _), HF.out, fun y hy => by
        rcases List.mem_append.1 hy with q | q
        · exact HNo.out y q
        · rw [List.mem_singleton.1 q]; exact HX.out⟩
  case' hdone =>
    rintro D xs W hD hxs ⟨hF, hno⟩ hdf
    have t0 : W.cell? ⟨T, 0, none⟩ = some (.string ⟨#[]⟩) := Lib.cell_of_heap hF.t 0
    have t1 : W.cell? ⟨T, 1, none⟩ = some (.int .i64 0) := Lib.cell_of_heap hF.t 1
    have t2 : W.cell? ⟨T, 2, none⟩ = some (.bool false) := Lib.cell_of_heap hF.t 2
    have t3 : W.cell? ⟨T, 3, none⟩ = some (.bool false) := Lib.cell_of_heap hF.t 3
    have t4 : W.cell? ⟨T, 4, none⟩ = some (.int .i64 0) := Lib.cell_of_heap hF.t 4
    have t5 : W.cell? ⟨T, 5, none⟩ = some (.int .i64 0) := Lib.cell_of_heap hF.t 5
    have t6 : W.cell? ⟨T, 6, none⟩ = some (.int .i64 0) := Lib.cell_of_heap hF.t 6
    have f0 : W.frozen? ⟨T, 0, none⟩ = false := Lib.frozen_of_heap hF.t 0
    have f1 : W.frozen? ⟨T, 1, none⟩ = false := Lib.frozen_of_heap hF.t 1
    have f2 : W.frozen? ⟨T, 2, none⟩ = false := Lib.frozen_of_heap hF.t 2
    have f3 : W.frozen? ⟨T, 3, none⟩ = false := Lib.frozen_of_heap hF.t 3
    have f4 : W.frozen? ⟨T, 4, none⟩ = false := Lib.frozen_of_heap hF.t 4
    have f5 : W.frozen? ⟨T, 5, none⟩ = false := Lib.frozen_of_heap hF.t 5
    have f6 : W.frozen? ⟨T, 6, none⟩ = false := Lib.frozen_of_heap hF.t 6
    have u0 : W.cell? ⟨T + 1, 0, none⟩ = some (.bool false) := Lib.cell_of_heap hF.tb 0
    have v0 : W.frozen? ⟨T + 1, 0, none⟩ = false := Lib.frozen_of_heap hF.tb 0
    obtain ⟨hq, hk⟩ := hF.told noSc false rfl
    have HQ := hid_of hq
    have HDD := hid_of (And.intro (show S + 1 ≤ D from by rw [← HZ.out]; exact hD) (show _ from hk.same D _ (by rw [← HZ.out]; exact hD) hdf rfl))
    have HV := hid_of (show fnd s = (noSc, false) from fnd_no (fun x hx => hno x (by rw [hxs]; exact hx)))
    clear hF hno hdf hD hq hk hxs
    gi_wp2_with fail
    refine ⟨by simp, .inl ⟨_, _, rfl, run_takeDeferred HDD.out.2, ?_⟩⟩
    have k1 := cell_put (o := .deferred none) (o' := .deferred none) HDD.out.2 HQ.out.t
    have k2 := cell_put (o := .deferred none) (o' := .deferred none) HDD.out.2 HQ.out.tb
    refine ⟨findV s, ?_, rfl, HQ.out.bel.grown (grownBy_putObj' _ D (.deferred none)) HQ.out.bel.size (fun j hj => by cases hj; have := HDD.out.1; have := HQ.out.lt; have := HQ.out.wT; omega)⟩
    exact res_find k1 k2 HV.out
  case' hstop =>
    rintro D cd pre W hD hpre ⟨rfl, p, x, hpx, hxs, hno, hF⟩ hdf
    gi_wp2_with fail
    refine ⟨by simp, .inl ⟨_, _, rfl, run_takeDeferred hdf, ?_⟩⟩
    have k1 := cell_put (o := .deferred none) (o' := .deferred none) hdf hF.t
    have k2 := cell_put (o := .deferred none) (o' := .deferred none) hdf hF.tb
    refine ⟨findV s, ?_, rfl, hF.bel.grown (grownBy_putObj' _ D (.deferred none)) hF.bel.size (fun j hj => by cases hj; have := HZ.out; have := hF.lt; have := hF.wT; omega)⟩
    exact res_find k1 k2 (fnd_yes (by rw [← hpx]; exact hpre) hxs hno)
end Go.Proofs.YtpibeabokedpdaaGreatDoor.FindC
end
section
namespace Go.Proofs.YtpibeabokedpdaaGreatDoor.RFind
open Go.RowKit
open Go.Proofs.YtpibeabokedpdaaGreatDoor.Tab
open Go.Proofs.YtpibeabokedpdaaGreatDoor.Base
open Go.Proofs.YtpibeabokedpdaaGreatDoor.Low
open Go.Proofs.YtpibeabokedpdaaGreatDoor.FindP
open Go.Proofs.YtpibeabokedpdaaGreatDoor.FindC
open Go.Proofs.YtpibeabokedpdaaGreatDoor.RowsL
attribute [local go_sem] Oper.semAt_some
set_option linter.unusedVariables false
set_option linter.unusedSimpArgs false
theorem flat7 (f : Sc → List Value) (h : ∀ r, (f r).length = 7) : ∀ (l : List Sc) (k j : Nat) (hk : k < l.length), j < 7 → (l.flatMap f)[k * 7 + j]? = (f l[k])[j]?
  | [], k, j, hk, _ => by simp at hk
  | r :: l, 0, j, hk, hj => by
    rw [List.flatMap_cons, List.getElem?_append_left (by rw [h]; omega)]
    simp
  | r :: l, k + 1, j, hk, hj => by
    rw [List.flatMap_cons, List.getElem?_append_right (by rw [h]; omega), h, show (k + 1) * 7 + j - 7 = k * 7 + j by omega]
    exact flat7 f h l k j (by simpa using hk) hj
theorem cells_at (k j : Nat) (hk : k < docRows.length) (hj : j < 7) : docCells[k * 7 + j]? = (cellsS docRows[k])[j]? := by
  unfold docCells
  rw [List.getElem?_toArray, List.flatMap_map]
  exact flat7 (fun r => (valS r).cells.toList) (fun r => rfl) docRows k j hk hj
theorem doc_cells {W : World} {g : Nat} (h : W.heap[g]? = some (.cells docCells 81 (0, 0))) (k : Nat) (hk : k < docRows.length) :
    W.cell? ⟨g, k * 7, none⟩ = some (.string (mk docRows[k].name)) ∧ W.cell? ⟨g, k * 7 + 1, none⟩ = some (.int .i64 docRows[k].arity) ∧ W.cell? ⟨g, k * 7 + 2, none⟩ = some (.bool docRows[k].wr) ∧ W.cell? ⟨g, k * 7 + 3, none⟩ = some (.bool docRows[k].ct) ∧ W.cell? ⟨g, k * 7 + 4, none⟩ = some (.int .i64 docRows[k].first) ∧ W.cell? ⟨g, k * 7 + 5, none⟩ = some (.int .i64 docRows[k].last) ∧ W.cell? ⟨g, k * 7 + 6, none⟩ = some (.int .i64 docRows[k].step) := by
  refine ⟨?_, ?_, ?_, ?_, ?_, ?_, ?_⟩
  · rw [Lib.cell_of_heap h]; exact cells_at k 0 hk (by omega)
  all_goals (rw [Lib.cell_of_heap h, cells_at k _ hk (by omega)]; rfl)
theorem fnd_doc (s : Tab.Bs) : fnd s = match findS s with
    | some r => (r, true)
    | none => (noSc, false) := by
  rw [← find_same]
  unfold fnd
  cases findR s <;> rfl
theorem rfnd_no {s : Tab.Bs} (h : ∀ x ∈ docRows, x.name ≠ s) : fnd s = (noSc, false) := by
  rw [fnd_doc]
  have : findS s = none := by
    unfold findS
    rw [List.find?_eq_none]
    intro x hx e
    exact h x hx (eq_of_beq e)
  rw [this]
theorem rfnd_yes {s : Tab.Bs} {k : Nat} (hk : k < docRows.length) (hx : docRows[k].name = s) (h : ∀ y ∈ docRows.take k, y.name ≠ s) : fnd s = (docRows[k], true) := by
  rw [fnd_doc]
  have : findS s = some docRows[k] := by
    have e : docRows = docRows.take k ++ docRows[k] :: docRows.drop (k + 1) := by rw [← List.drop_eq_getElem_cons hk, List.take_append_drop]
    have q : docRows.find? (fun r => r.name == s) = (docRows.take k ++ docRows[k] :: docRows.drop (k + 1)).find? (fun r => r.name == s) := congrArg _ e
    unfold findS
    rw [q, List.find?_append, List.find?_eq_none.2 (fun y hy q => h y hy (eq_of_beq q))]
    show List.find? (fun r => r.name == s) (docRows[k] :: docRows.drop (k + 1)) = _
    have hp : (docRows[k].name == s) = true := by rw [hx]; exact beq_self_eq_true s
    rw [List.find?_cons, hp]
  rw [this]
theorem res_rfind {W : World} {T : Nat} {s : Tab.Bs} {r : Sc} {b : Bool} {tm : Array Value} (h1 : W.heap[T]? = some (.cells (cellsS r).toArray 81 (0, 0))) (hv : fnd s = (r, b))
    (e2 : tm[2]?.getD undef = .pointer (some ⟨T, 0, none⟩) := by rfl) (e3 : tm[3]?.getD undef = .bool b := by rfl) : (results Tryz.f49 tm).run Tryz.prog W = .ok (findV s) W := by
  have c0 : W.cell? ⟨T, 0, none⟩ = some (.string (mk r.name)) := Lib.cell_of_heap h1 0
  have c1 : W.cell? ⟨T, 1, none⟩ = some (.int .i64 r.arity) := Lib.cell_of_heap h1 1
  have c2 : W.cell? ⟨T, 2, none⟩ = some (.bool r.wr) := Lib.cell_of_heap h1 2
  have c3 : W.cell? ⟨T, 3, none⟩ = some (.bool r.ct) := Lib.cell_of_heap h1 3
  have c4 : W.cell? ⟨T, 4, none⟩ = some (.int .i64 r.first) := Lib.cell_of_heap h1 4
  have c5 : W.cell? ⟨T, 5, none⟩ = some (.int .i64 r.last) := Lib.cell_of_heap h1 5
  have c6 : W.cell? ⟨T, 6, none⟩ = some (.int .i64 r.step) := Lib.cell_of_heap h1 6
  unfold findV
  rw [hv]
  unfold valS cellsS
  simp [results, Tryz.results49, go_sem, e2, e3, c0, c1, c2, c3, c4, c5, c6]
/- what the loop keeps: the result's box, the table -/
structure RI (w : World) (W : World) : Prop where
  bel : Below w.heap.size w W
  t : W.heap[w.heap.size]? = some (.cells (cellsS noSc).toArray 81 (0, 0))
  g : W.heap[w.heap.size + 1]? = some (.cells docCells 81 (0, 0))
theorem RI.below {w W W' : World} (h : RI w W) (b : Below W.heap.size W W') : RI w W' := ⟨h.bel.trans (b.mono h.bel.size), (b.block _ (lt_of h.t)).trans h.t, (b.block _ (lt_of h.g)).trans h.g⟩
set_option maxHeartbeats 4000000 in
set_option maxRecDepth 100000 in
theorem rfind_call (l : Tab.Bs) (w : World) (hl : l.length < 9223372036854775808) : Calls Tryz.prog 49 #[.string (mk l)] w fun e w' => e = .returned (findV (l.map low)) ∧ Below w.heap.size w w' := by
  have HL := hid_of (fun w => rlower_call l w hl)
  obtain ⟨s, hs⟩ : ∃ s, s = l.map low := ⟨_, rfl⟩
  rw [← hs] at HL ⊢
  clear hl hs
  generalize mk l = L0 at *
  have HR := hid_of (rows_call (w.alloc (.cells #[.string ⟨#[]⟩, .int .i64 0, .bool false, .bool false, .int .i64 0, .int .i64 0, .int .i64 0] 81)))
  go_enter Tryz.func49, Tryz.ntmps49
  go_wp2_with fail
  refine HR.out.mono ?_
  rintro e w1 ⟨rfl, hw1⟩
  have hI : RI w w1 := by
    have a1 : Below w.heap.size w (w.alloc (.cells #[.string ⟨#[]⟩, .int .i64 0, .bool false, .bool false, .int .i64 0, .int .i64 0, .int .i64 0] 81)) := (Below.refl _ w).alloc (Nat.le_refl _) _
    rw [hw1]
    refine ⟨a1.alloc a1.size _, ?_, ?_⟩
    · rw [Below.heap_alloc _ _ _ (by simp)]; exact heap_alloc_new w _
    · have := heap_alloc_new (w.alloc (.cells #[.string ⟨#[]⟩, .int .i64 0, .bool false, .bool false, .int .i64 0, .int .i64 0, .int .i64 0] 81)) (.cells docCells 81)
      simpa using this
  have HI := hid_of hI
  have es : (w.alloc (.cells #[.string ⟨#[]⟩, .int .i64 0, .bool false, .bool false, .int .i64 0, .int .i64 0, .int .i64 0] 81)).heap.size = w.heap.size + 1 := by simp
  rw [es]
  clear hI hw1 es HR
  obtain ⟨T, hT⟩ : ∃ T, T = w.heap.size := ⟨_, rfl⟩
  have HT := hid_of hT
  rw [← hT]
  clear hT
  go_wp2_with fail
  go_loopg [5] 118 (fun gk s5 wx => ∃ k : Nat, k ≤ 118 ∧ 118 ≤ k + gk ∧ s5 = .int .i64 (k : Int) ∧ Hid (RI w wx ∧ ∀ y ∈ docRows.take k, y.name ≠ s))
  case atStart => exact ⟨0, by omega, by omega, rfl, hid_of ⟨HI.out, by simp⟩⟩
  case round =>
    obtain ⟨k, hk, hgk, rfl, I⟩ := hrel
    clear HI
    by_cases hlt : k < 118
    · obtain ⟨g', rfl⟩ : ∃ g', gk = g' + 1 := ⟨gk - 1, by omega⟩
      have hkl : k < docRows.length := by rw [doc_len]; exact hlt
      obtain ⟨x, hx⟩ : ∃ x, x = docRows[k] := ⟨_, rfl⟩
      have HC : Hid (∀ V, Below wr.heap.size wr V → V.cell? ⟨T + 1, k * 7, none⟩ = some (.string (mk x.name))) := hid_of fun V b => by
        rw [hx, HT.out]; exact (doc_cells (I.out.1.below b).g k hkl).1
      have HC2 : Hid (∀ V, Below wr.heap.size wr V → V.cell? ⟨T + 1, k * 7, none⟩ = some (.string (mk x.name)) ∧ V.cell? ⟨T + 1, k * 7 + 1, none⟩ = some (.int .i64 x.arity) ∧ V.cell? ⟨T + 1, k * 7 + 2, none⟩ = some (.bool x.wr) ∧ V.cell? ⟨T + 1, k * 7 + 3, none⟩ = some (.bool x.ct) ∧ V.cell? ⟨T + 1, k * 7 + 4, none⟩ = some (.int .i64 x.first) ∧ V.cell? ⟨T + 1, k * 7 + 5, none⟩ = some (.int .i64 x.last) ∧ V.cell? ⟨T + 1, k * 7 + 6, none⟩ = some (.int .i64 x.step)) := hid_of fun V b => by
        rw [hx, HT.out]; exact doc_cells (I.out.1.below b).g k hkl
      have c0 := HC.out wr (Below.refl _ _)
      have e2 : IntKind.i64.wrap ((k : Int) + 1) = (k : Int) + 1 := IntWalk.i64_in _ (by omega)
      have HX := hid_of hx
      have HL2 := hid_of (HL.out wr)
      have g1 : (k : Int) < 118 := by omega
      clear hx
      by_cases hn : x.name = s
      · have hc := str_yes s
        have HN := hid_of hn
        rw [hn] at c0 HC HC2
        obtain ⟨MS, HMS⟩ : ∃ MS, Hid (MS = mk s) := ⟨_, hid_of rfl⟩
        rw [← HMS.out] at c0 HC HC2 hc HL HL2
        clear hn
        go_wp2_with fail
        go_region_held3 (fun V => V.cell? ⟨T + 1, k * 7, none⟩ = some (.string MS)) (first | exact c0 | exact HC.out _ b3) (first
          | (go_at_call 23; refine (HL.out _).mono ?_; rintro e w3 ⟨rfl, b4⟩; have b3 : Below wr.heap.size wr w3 := ⟨b4.os, b4.tape, b4.output, b4.size, b4.block⟩; clear b4))
        obtain ⟨d0, d1, d2, d3, d4, d5, d6⟩ := HC2.out w3 b3
        have I3 := I.out.1.below b3
        have ht := I3.t
        rw [← HT.out] at ht
        have t0 : w3.cell? ⟨T, 0, none⟩ = some (.string ⟨#[]⟩) := Lib.cell_of_heap ht 0
        have f0 : w3.frozen? ⟨T, 0, none⟩ = false := Lib.frozen_of_heap ht 0
        have t1 : w3.cell? ⟨T, 1, none⟩ = some (.int .i64 0) := Lib.cell_of_heap ht 1
        have f1 : w3.frozen? ⟨T, 1, none⟩ = false := Lib.frozen_of_heap ht 1
        have t2 : w3.cell? ⟨T, 2, none⟩ = some (.bool false) := Lib.cell_of_heap ht 2
        have f2 : w3.frozen? ⟨T, 2, none⟩ = false := Lib.frozen_of_heap ht 2
        have t3 : w3.cell? ⟨T, 3, none⟩ = some (.bool false) := Lib.cell_of_heap ht 3
        have f3 : w3.frozen? ⟨T, 3, none⟩ = false := Lib.frozen_of_heap ht 3
        have t4 : w3.cell? ⟨T, 4, none⟩ = some (.int .i64 0) := Lib.cell_of_heap ht 4
        have f4 : w3.frozen? ⟨T, 4, none⟩ = false := Lib.frozen_of_heap ht 4
        have t5 : w3.cell? ⟨T, 5, none⟩ = some (.int .i64 0) := Lib.cell_of_heap ht 5
        have f5 : w3.frozen? ⟨T, 5, none⟩ = false := Lib.frozen_of_heap ht 5
        have t6 : w3.cell? ⟨T, 6, none⟩ = some (.int .i64 0) := Lib.cell_of_heap ht 6
        have f6 : w3.frozen? ⟨T, 6, none⟩ = false := Lib.frozen_of_heap ht 6
        have HI3 := hid_of I3
        have HTT := hid_of ht
        clear I3 ht b3
        go_wp2_with fail
        have hB : Below w.heap.size w (set7 w3 T (.string MS) (.int .i64 x.arity) (.bool x.wr) (.bool x.ct) (.int .i64 x.first) (.int .i64 x.last) (.int .i64 x.step)) := set7_below HI3.out.bel (by rw [HT.out]; exact Nat.le_refl _) _ _ _ _ _ _ _
        have hfin := set7_at HTT.out rfl (.string MS) (.int .i64 x.arity) (.bool x.wr) (.bool x.ct) (.int .i64 x.first) (.int .i64 x.last) (.int .i64 x.step)
        refine ⟨rfl, findV s, ?_, rfl, hB⟩
        refine res_rfind (r := x) (b := true) ?_ ?_
        · rw [hfin]; unfold cellsS; rw [HN.out, HMS.out]
        · rw [HX.out]; exact rfnd_yes hkl (by rw [← HX.out]; exact HN.out) I.out.2
      · have hc := str_no hn
        have HN := hid_of hn
        obtain ⟨X0, HX0⟩ : ∃ X0, Hid (X0 = mk x.name) := ⟨_, hid_of rfl⟩
        rw [← HX0.out] at c0 HC hc
        generalize mk s = MS at *
        clear hn HC2
        go_wp2_with fail
        go_region_held3 (fun V => V.cell? ⟨T + 1, k * 7, none⟩ = some (.string X0)) (first | exact c0 | exact HC.out _ b3) (first
          | (go_at_call 23; refine (HL.out _).mono ?_; rintro e w3 ⟨rfl, b4⟩; have b3 : Below wr.heap.size wr w3 := ⟨b4.os, b4.tape, b4.output, b4.size, b4.block⟩; clear b4))
        have HI3 := hid_of (I.out.1.below b3)
        clear b3
        go_wp2_with fail
        go_roundg g'
        case measure => omega
        case rel => exact ⟨k + 1, by omega, by omega, by simp, hid_of ⟨HI3.out, fun y hy => by
          rw [List.take_succ_eq_append_getElem hkl] at hy
          rcases List.mem_append.1 hy with q | q
          · exact I.out.2 y q
          · rw [List.mem_singleton.1 q, ← HX.out]; exact HN.out⟩⟩
    · obtain rfl : k = 118 := by omega
      have I3 := I.out.1
      have ht := I3.t
      rw [← HT.out] at ht
      have HN : Hid (fnd s = (noSc, false)) := hid_of (rfnd_no fun y hy => I.out.2 y (by rw [List.take_of_length_le (by rw [doc_len]; exact Nat.le_refl _)]; exact hy))
      have t0 : wr.cell? ⟨T, 0, none⟩ = some (.string ⟨#[]⟩) := Lib.cell_of_heap ht 0
      have f0 : wr.frozen? ⟨T, 0, none⟩ = false := Lib.frozen_of_heap ht 0
      have t1 : wr.cell? ⟨T, 1, none⟩ = some (.int .i64 0) := Lib.cell_of_heap ht 1
      have f1 : wr.frozen? ⟨T, 1, none⟩ = false := Lib.frozen_of_heap ht 1
      have t2 : wr.cell? ⟨T, 2, none⟩ = some (.bool false) := Lib.cell_of_heap ht 2
      have f2 : wr.frozen? ⟨T, 2, none⟩ = false := Lib.frozen_of_heap ht 2
      have t3 : wr.cell? ⟨T, 3, none⟩ = some (.bool false) := Lib.cell_of_heap ht 3
      have f3 : wr.frozen? ⟨T, 3, none⟩ = false := Lib.frozen_of_heap ht 3
      have t4 : wr.cell? ⟨T, 4, none⟩ = some (.int .i64 0) := Lib.cell_of_heap ht 4
      have f4 : wr.frozen? ⟨T, 4, none⟩ = false := Lib.frozen_of_heap ht 4
      have t5 : wr.cell? ⟨T, 5, none⟩ = some (.int .i64 0) := Lib.cell_of_heap ht 5
      have f5 : wr.frozen? ⟨T, 5, none⟩ = false := Lib.frozen_of_heap ht 5
      have t6 : wr.cell? ⟨T, 6, none⟩ = some (.int .i64 0) := Lib.cell_of_heap ht 6
      have f6 : wr.frozen? ⟨T, 6, none⟩ = false := Lib.frozen_of_heap ht 6
      have HI3 := hid_of I3
      have HTT := hid_of ht
      clear I3 ht
      go_wp2_with fail
      have hB := set7_below (T := T) HI3.out.bel (by rw [HT.out]; exact Nat.le_refl _) (.string ⟨#[]⟩) (.int .i64 0) (.bool false) (.bool false) (.int .i64 0) (.int .i64 0) (.int .i64 0)
      have hfin := set7_at HTT.out rfl (.string ⟨#[]⟩) (.int .i64 0) (.bool false) (.bool false) (.int .i64 0) (.int .i64 0) (.int .i64 0)
      refine ⟨rfl, findV s, ?_, rfl, hB⟩
      exact res_rfind (r := noSc) (b := false) hfin HN.out
end Go.Proofs.YtpibeabokedpdaaGreatDoor.RFind
end
