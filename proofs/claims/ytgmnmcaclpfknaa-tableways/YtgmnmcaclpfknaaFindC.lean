/- Find of the program, walked. -/
import Derived.Test.YtgmnmcaclpfknaaFindP
namespace Go.Proofs.Ytgmnmcaclpfknaa.FindC
open Go.RowKit
open Go.Proofs.Ytgmnmcaclpfknaa.Tab
open Go.Proofs.Ytgmnmcaclpfknaa.Base
open Go.Proofs.Ytgmnmcaclpfknaa.Sect
open Go.Proofs.Ytgmnmcaclpfknaa.Range
open Go.Proofs.Ytgmnmcaclpfknaa.Thr
open Go.Proofs.Ytgmnmcaclpfknaa.IterR
open Go.Proofs.Ytgmnmcaclpfknaa.Low
open Go.Proofs.Ytgmnmcaclpfknaa.FindP
open Go.Proofs.Ytgmnmcaclpfknaa.RowsL (valS cellsS)
attribute [local go_sem] Oper.semAt_some
set_option linter.unusedVariables false
set_option linter.unusedSimpArgs false
theorem res_find {W : World} {T : Nat} {s : Tab.Bs} {r : Sc} {b : Bool} {tm : Array Value} (h1 : W.heap[T]? = some (.cells (cellsS r).toArray 23 (0, 0))) (h2 : W.heap[T + 1]? = some (.cells #[.bool b] 4 (0, 0))) (hv : fnd s = (r, b))
    (e2 : tm[2]?.getD undef = .pointer (some ⟨T, 0, none⟩) := by rfl) (e3 : tm[3]?.getD undef = .pointer (some ⟨T + 1, 0, none⟩) := by rfl) : (results Try.f8 tm).run Try.prog W = .ok (findV s) W := by
  have c0 : W.cell? ⟨T, 0, none⟩ = some (.string (mk r.name)) := Lib.cell_of_heap h1 0
  have c1 : W.cell? ⟨T, 1, none⟩ = some (.int .i64 r.arity) := Lib.cell_of_heap h1 1
  have c2 : W.cell? ⟨T, 2, none⟩ = some (.bool r.wr) := Lib.cell_of_heap h1 2
  have c3 : W.cell? ⟨T, 3, none⟩ = some (.bool r.ct) := Lib.cell_of_heap h1 3
  have c4 : W.cell? ⟨T, 4, none⟩ = some (.int .i64 r.first) := Lib.cell_of_heap h1 4
  have c5 : W.cell? ⟨T, 5, none⟩ = some (.int .i64 r.last) := Lib.cell_of_heap h1 5
  have c6 : W.cell? ⟨T, 6, none⟩ = some (.int .i64 r.step) := Lib.cell_of_heap h1 6
  have d0 : W.cell? ⟨T + 1, 0, none⟩ = some (.bool b) := Lib.cell_of_heap h2 0
  unfold findV
  rw [hv]
  unfold valS cellsS
  simp [results, Try.results8, go_sem, e2, e3, c0, c1, c2, c3, c4, c5, c6, d0]
theorem KeepsFrom.of_below {B : Nat} {A A' : World} (h : Below A.heap.size A A') : KeepsFrom B A A' := ⟨h.size, fun k o _ ho _ => (h.block k (lt_of ho)).trans ho⟩
set_option maxHeartbeats 4000000 in
set_option maxRecDepth 100000 in
theorem find_call (l : Tab.Bs) (w : World) (hl : l.length < 9223372036854775808) : Calls Try.prog 8 #[.string (mk l)] w fun e w' => e = .returned (findV (l.map low)) ∧ Below w.heap.size w w' := by
  have HL := hid_of (fun w => lower_call l w hl)
  obtain ⟨s, hs⟩ : ∃ s, s = l.map low := ⟨_, rfl⟩
  rw [← hs] at HL ⊢
  clear hl hs
  generalize mk l = L0 at *
  refine (callsIn_wide (n := 5)).1 ?_
  refine callsIn_of_wp_marks Try.func8 rfl trivial ?_ rfl
  simp only [Try.ntmps8, List.size_toArray, List.length_cons, List.length_nil, Nat.reduceAdd, Nat.reduceSub, Array.replicate_succ, Array.replicate_zero, List.push_toArray, List.append_toArray, List.nil_append, List.cons_append]
  gi_wp2_with fail
  obtain ⟨W0, hW0⟩ : ∃ W0, W0 = (w.alloc (.cells #[.string ⟨#[]⟩, .int .i64 0, .bool false, .bool false, .int .i64 0, .int .i64 0, .int .i64 0] 23)).alloc (.cells #[.bool false] 4) := ⟨_, rfl⟩
  rw [← hW0]
  refine ⟨trivial, callsIn_wide.2 ((HL.out _).mono ?_)⟩
  rintro e w1 ⟨rfl, b1⟩
  obtain ⟨T, hT⟩ : ∃ T, T = w.heap.size := ⟨_, rfl⟩
  obtain ⟨S, hS⟩ : ∃ S, S = w1.heap.size := ⟨_, rfl⟩
  obtain ⟨w2, hw2⟩ : ∃ w2, w2 = w1.alloc (.cells #[.string (mk s)] 9) := ⟨_, rfl⟩
  have z0 : W0.heap.size = T + 2 := by rw [hW0, hT]; simp
  have z2 : w2.heap.size = S + 1 := by rw [hw2, hS]; simp
  have hP : FI w (S + 1) T S s noSc false w2 := by
    have a1 : Below w.heap.size w (w.alloc (.cells #[.string ⟨#[]⟩, .int .i64 0, .bool false, .bool false, .int .i64 0, .int .i64 0, .int .i64 0] 23)) := (Below.refl _ w).alloc (Nat.le_refl _) _
    have a0 : Below w.heap.size w W0 := by rw [hW0]; exact a1.alloc a1.size _
    have b2 : Below w1.heap.size w1 w2 := by rw [hw2]; exact (Below.refl _ w1).alloc (Nat.le_refl _) _
    have s1 := b1.size
    have n0 : W0.heap[T]? = some (.cells (cellsS noSc).toArray 23 (0, 0)) := by
      rw [hW0, Below.heap_alloc _ _ _ (by rw [hT]; simp), hT]; exact heap_alloc_new w _
    have n1 : W0.heap[T + 1]? = some (.cells #[.bool false] 4 (0, 0)) := by
      rw [hW0, hT]
      have := heap_alloc_new (w.alloc (.cells #[.string ⟨#[]⟩, .int .i64 0, .bool false, .bool false, .int .i64 0, .int .i64 0, .int .i64 0] 23)) (.cells #[.bool false] 4)
      simpa using this
    have n2 : w2.heap[S]? = some (.cells #[.string (mk s)] 9 (0, 0)) := by rw [hw2, hS]; exact heap_alloc_new w1 _
    have hSS : T + 2 ≤ S := by rw [hS, ← z0]; exact s1
    refine ⟨a0.trans ((b1.mono a0.size).trans (b2.mono (Nat.le_trans a0.size s1))), by omega, ?_, ?_, n2, by omega, by omega, by omega, by omega, by omega⟩
    · rw [b2.block _ (by omega), b1.block _ (by omega)]; exact n0
    · rw [b2.block _ (by omega), b1.block _ (by omega)]; exact n1
  have HP := hid_of hP
  have HZ := hid_of z2
  have HT := hid_of hT
  rw [← hT]
  clear hP z2 hT z0 hW0 b1
  gi_wp2_with fail
  rw [← hw2, ← hS]
  clear hw2 hS
  apply range_own (n := 5) (P := Try.prog) (w := w2) (by decide) (gf := 21) (lb := #[]) rfl (enters_of Try.func21 (by kernel_rfl) rfl) (Kp := Kp) (R := Gw) (encs := fun x : Rw => #[valR x]) (S := fun xs => xs = allRows) (Sp := fun pre => pre <+: allRows) (N := 118) (w0 := w2)
    (I := fun pre W => FI w (S + 1) T S s noSc false W ∧ ∀ x ∈ pre, x.name ≠ s)
    (Ix := fun cd pre W => cd = .ret ∧ ∃ p x, pre = p ++ [x] ∧ x.name = s ∧ (∀ y ∈ p, y.name ≠ s) ∧ FI w (S + 1) T S s (spec x) true W)
    (A := fun x W => W.alloc (.cells #[.string (mk x.name), .int .i64 x.arity, .int .i64 x.part, .int .i64 x.first, .int .i64 x.last, .int .i64 x.step] 42))
  case hassign =>
    intro lp x W K hK
    unfold valR cellsR
    gi_wp2_with fail
    exact hK
  case hseq => exact rows_seq 4 w2
  case hb0 => exact Below.refl _ _
  case hps => exact fun _ => rfl
  case hRo => exact fun B A A' k o hr hk ho => (Below.block hr k (Array.getElem?_eq_some_iff.1 hk).1).trans hk
  case hKt => exact fun h k => h.trans k
  case hKb =>
    intro W k o o' hk ho hc
    refine ⟨by simp [World.putObj], fun j cs fz e => World.putObj_heap_other ?_⟩
    rintro rfl; rw [ho] at e; cases e; cases hc
  case hI => rw [HZ.out]; exact fun pre W W' row h hg hr => ⟨h.1.grown hg hr, h.2⟩
  case hIx =>
    intro cd
    rw [HZ.out]
    rintro pre W W' row ⟨e, p, x, h1, h2, h3, h4⟩ hg hr
    exact ⟨e, p, x, h1, h2, h3, h4.grown hg hr⟩
  case hIR => exact fun pre A A' h hr => ⟨h.1.below hr, h.2⟩
  case hIxR =>
    rintro cd pre A A' ⟨e, p, x, h1, h2, h3, h4⟩ hr
    exact ⟨e, p, x, h1, h2, h3, h4.below hr⟩
  case h0 => exact ⟨HP.out, by simp⟩
  case hA => exact fun x W => (Below.refl _ W).alloc (Nat.le_refl _) _
  case hAI => exact fun pre x W h => ⟨h.1.below ((Below.refl _ W).alloc (Nat.le_refl _) _), h.2⟩
  case hAK => exact fun pre x W h => Kp.of_below ((Below.refl _ W).alloc (Nat.le_refl _) _)
  case hbody =>
    rintro lp pre x W V hWs ⟨hF, hno⟩ hpl hVs hV
    have hE : V.heap[W.heap.size]? = some (.cells #[.string (mk x.name), .int .i64 x.arity, .int .i64 x.part, .int .i64 x.first, .int .i64 x.last, .int .i64 x.step] 42 (0, 0)) := (hV _ (Nat.le_refl _)).trans (heap_alloc_new W _)
    obtain ⟨E, hEE⟩ : ∃ E, E = W.heap.size := ⟨_, rfl⟩
    rw [← hEE] at hE ⊢
    have e0 : V.cell? ⟨E, 0, none⟩ = some (.string (mk x.name)) := Lib.cell_of_heap hE 0
    have e1 : V.cell? ⟨E, 1, none⟩ = some (.int .i64 x.arity) := Lib.cell_of_heap hE 1
    have e2 : V.cell? ⟨E, 2, none⟩ = some (.int .i64 x.part) := Lib.cell_of_heap hE 2
    have e3 : V.cell? ⟨E, 3, none⟩ = some (.int .i64 x.first) := Lib.cell_of_heap hE 3
    have e4 : V.cell? ⟨E, 4, none⟩ = some (.int .i64 x.last) := Lib.cell_of_heap hE 4
    have e5 : V.cell? ⟨E, 5, none⟩ = some (.int .i64 x.step) := Lib.cell_of_heap hE 5
    have cs : V.cell? ⟨S, 0, none⟩ = some (.string (mk s)) := Lib.cell_of_heap hF.sm 0
    have HF := hid_of hF
    have HNo := hid_of hno
    by_cases hx : x.name = s
    · have hc := str_yes s
      rw [hx] at e0
      have HX := hid_of hx
      have HSp := hid_of (spec_call x V)
      rw [show valR x = .agg #[.string (mk s), .int .i64 x.arity, .int .i64 x.part, .int .i64 x.first, .int .i64 x.last, .int .i64 x.step] from by rw [← hx]; rfl, show valS (spec x) = .agg #[.string (mk s), .int .i64 (spec x).arity, .bool (spec x).wr, .bool (spec x).ct, .int .i64 (spec x).first, .int .i64 (spec x).last, .int .i64 (spec x).step] from by rw [← hx]; rfl] at HSp
      clear hx hE hV hVs hEE hWs hF hno
      obtain ⟨ms, HMS⟩ : ∃ ms, Hid (ms = mk s) := ⟨_, hid_of rfl⟩
      rw [← HMS.out] at HSp e0 cs hc
      gi_wp2_with fail
      refine ⟨trivial, (CallsIn.inRound lp (callsIn_wide.2 HSp.out)).mono ?_⟩
      rintro e w5 ⟨rfl, b5⟩
      have F5 := HF.out.below b5
      have t0 : w5.cell? ⟨T, 0, none⟩ = some (.string ⟨#[]⟩) := Lib.cell_of_heap F5.t 0
      have t1 : w5.cell? ⟨T, 1, none⟩ = some (.int .i64 0) := Lib.cell_of_heap F5.t 1
      have t2 : w5.cell? ⟨T, 2, none⟩ = some (.bool false) := Lib.cell_of_heap F5.t 2
      have t3 : w5.cell? ⟨T, 3, none⟩ = some (.bool false) := Lib.cell_of_heap F5.t 3
      have t4 : w5.cell? ⟨T, 4, none⟩ = some (.int .i64 0) := Lib.cell_of_heap F5.t 4
      have t5 : w5.cell? ⟨T, 5, none⟩ = some (.int .i64 0) := Lib.cell_of_heap F5.t 5
      have t6 : w5.cell? ⟨T, 6, none⟩ = some (.int .i64 0) := Lib.cell_of_heap F5.t 6
      have f0 : w5.frozen? ⟨T, 0, none⟩ = false := Lib.frozen_of_heap F5.t 0
      have f1 : w5.frozen? ⟨T, 1, none⟩ = false := Lib.frozen_of_heap F5.t 1
      have f2 : w5.frozen? ⟨T, 2, none⟩ = false := Lib.frozen_of_heap F5.t 2
      have f3 : w5.frozen? ⟨T, 3, none⟩ = false := Lib.frozen_of_heap F5.t 3
      have f4 : w5.frozen? ⟨T, 4, none⟩ = false := Lib.frozen_of_heap F5.t 4
      have f5 : w5.frozen? ⟨T, 5, none⟩ = false := Lib.frozen_of_heap F5.t 5
      have f6 : w5.frozen? ⟨T, 6, none⟩ = false := Lib.frozen_of_heap F5.t 6
      have u0 : w5.cell? ⟨T + 1, 0, none⟩ = some (.bool false) := Lib.cell_of_heap F5.tb 0
      have v0 : w5.frozen? ⟨T + 1, 0, none⟩ = false := Lib.frozen_of_heap F5.tb 0
      have HF5 := hid_of (And.intro F5 b5)
      clear F5 b5
      gi_wp2_with fail
      obtain ⟨hq, hk⟩ := HF5.out.1.told (spec x) true rfl
      rw [show (spec x).name = s from HX.out, ← HMS.out] at hq hk
      refine ⟨by rw [HZ.out]; exact (KeepsFrom.of_below HF5.out.2).trans hk, rfl, pre, x, rfl, HX.out, HNo.out, hq⟩
    · have hc := str_no hx
      have HX := hid_of hx
      clear hx hE hV hVs hEE hWs hF hno
      obtain ⟨ms, HMS⟩ : ∃ ms, Hid (ms = mk s) := ⟨_, hid_of rfl⟩
      rw [← HMS.out] at cs hc
      generalize mk x.name = X0 at *
      gi_wp2_with fail
      exact ⟨KeepsFrom.refl _ _, Kp.of_below (Below.refl _ _), HF.out, fun y hy => by
        rcases List.mem_append.1 hy with q | q
        · exact HNo.out y q
        · rw [List.mem_singleton.1 q]; exact HX.out⟩
  case' hdone =>
    rintro D xs W hD hxs ⟨hF, hno⟩ hdf
    have t0 : W.cell? ⟨T, 0, none⟩ = some (.string ⟨#[]⟩) := Lib.cell_of_heap hF.t 0
    have t1 : W.cell? ⟨T, 1, none⟩ = some (.int .i64 0) := Lib.cell_of_heap hF.t 1
    have t2 : W.cell? ⟨T, 2, none⟩ = some (.bool false) := Lib.cell_of_heap hF.t 2
    have t3 : W.cell? ⟨T, 3, none⟩ = some (.bool false) := Lib.cell_of_heap hF.t 3
    have t4 : W.cell? ⟨T, 4, none⟩ = some (.int .i64 0) := Lib.cell_of_heap hF.t 4
    have t5 : W.cell? ⟨T, 5, none⟩ = some (.int .i64 0) := Lib.cell_of_heap hF.t 5
    have t6 : W.cell? ⟨T, 6, none⟩ = some (.int .i64 0) := Lib.cell_of_heap hF.t 6
    have f0 : W.frozen? ⟨T, 0, none⟩ = false := Lib.frozen_of_heap hF.t 0
    have f1 : W.frozen? ⟨T, 1, none⟩ = false := Lib.frozen_of_heap hF.t 1
    have f2 : W.frozen? ⟨T, 2, none⟩ = false := Lib.frozen_of_heap hF.t 2
    have f3 : W.frozen? ⟨T, 3, none⟩ = false := Lib.frozen_of_heap hF.t 3
    have f4 : W.frozen? ⟨T, 4, none⟩ = false := Lib.frozen_of_heap hF.t 4
    have f5 : W.frozen? ⟨T, 5, none⟩ = false := Lib.frozen_of_heap hF.t 5
    have f6 : W.frozen? ⟨T, 6, none⟩ = false := Lib.frozen_of_heap hF.t 6
    have u0 : W.cell? ⟨T + 1, 0, none⟩ = some (.bool false) := Lib.cell_of_heap hF.tb 0
    have v0 : W.frozen? ⟨T + 1, 0, none⟩ = false := Lib.frozen_of_heap hF.tb 0
    obtain ⟨hq, hk⟩ := hF.told noSc false rfl
    have HQ := hid_of hq
    have HDD := hid_of (And.intro (show S + 1 ≤ D from by rw [← HZ.out]; exact hD) (show _ from hk.same D _ (by rw [← HZ.out]; exact hD) hdf rfl))
    have HV := hid_of (show fnd s = (noSc, false) from fnd_no (fun x hx => hno x (by rw [hxs]; exact hx)))
    clear hF hno hdf hD hq hk hxs
    gi_wp2_with fail
    refine ⟨by simp, .inl ⟨_, _, rfl, run_takeDeferred HDD.out.2, ?_⟩⟩
    have k1 := cell_put (o := .deferred none) (o' := .deferred none) HDD.out.2 HQ.out.t
    have k2 := cell_put (o := .deferred none) (o' := .deferred none) HDD.out.2 HQ.out.tb
    refine ⟨findV s, ?_, rfl, HQ.out.bel.grown (grownBy_putObj' _ D (.deferred none)) HQ.out.bel.size (fun j hj => by cases hj; have := HDD.out.1; have := HQ.out.lt; have := HQ.out.wT; omega)⟩
    exact res_find k1 k2 HV.out
  case' hstop =>
    rintro D cd pre W hD hpre ⟨rfl, p, x, hpx, hxs, hno, hF⟩ hdf
    gi_wp2_with fail
    refine ⟨by simp, .inl ⟨_, _, rfl, run_takeDeferred hdf, ?_⟩⟩
    have k1 := cell_put (o := .deferred none) (o' := .deferred none) hdf hF.t
    have k2 := cell_put (o := .deferred none) (o' := .deferred none) hdf hF.tb
    refine ⟨findV s, ?_, rfl, hF.bel.grown (grownBy_putObj' _ D (.deferred none)) hF.bel.size (fun j hj => by cases hj; have := HZ.out; have := hF.lt; have := hF.wT; omega)⟩
    exact res_find k1 k2 (fnd_yes (by rw [← hpx]; exact hpre) hxs hno)
end Go.Proofs.Ytgmnmcaclpfknaa.FindC
