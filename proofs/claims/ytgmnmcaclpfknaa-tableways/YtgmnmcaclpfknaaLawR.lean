/- The law TableRows. -/
import Derived.Test.YtgmnmcaclpfknaaAllC
import Derived.Test.YtgmnmcaclpfknaaLaws
namespace Go.Proofs.Ytgmnmcaclpfknaa.LawR
open Go.RowKit
open Go.Proofs.Ytgmnmcaclpfknaa.Tab
open Go.Proofs.Ytgmnmcaclpfknaa.Base
open Go.Proofs.Ytgmnmcaclpfknaa.AllP
open Go.Proofs.Ytgmnmcaclpfknaa.AllC
open Go.Proofs.Ytgmnmcaclpfknaa.RFind
open Go.Proofs.Ytgmnmcaclpfknaa.EqS
open Go.Proofs.Ytgmnmcaclpfknaa.Laws
open Go.Proofs.Ytgmnmcaclpfknaa.FindP (set7 set7_at set7_ne set7_below)
open Go.Proofs.Ytgmnmcaclpfknaa.SortC (OS)
open Go.Proofs.Ytgmnmcaclpfknaa.RowsL (valS cellsS rows_call docCells)
attribute [local go_sem] Oper.semAt_some
set_option linter.unusedVariables false
set_option linter.unusedSimpArgs false
/- a row of the table at its place -/
structure C7 (W : World) (g k : Nat) (r : Sc) : Prop where
  c0 : W.cell? ⟨g, k * 7, none⟩ = some (.string (mk r.name))
  c1 : W.cell? ⟨g, k * 7 + 1, none⟩ = some (.int .i64 r.arity)
  c2 : W.cell? ⟨g, k * 7 + 2, none⟩ = some (.bool r.wr)
  c3 : W.cell? ⟨g, k * 7 + 3, none⟩ = some (.bool r.ct)
  c4 : W.cell? ⟨g, k * 7 + 4, none⟩ = some (.int .i64 r.first)
  c5 : W.cell? ⟨g, k * 7 + 5, none⟩ = some (.int .i64 r.last)
  c6 : W.cell? ⟨g, k * 7 + 6, none⟩ = some (.int .i64 r.step)
theorem os_c7 {B : Nat} {W : World} {g n c : Nat} (h : OS B W (.slice (some ⟨g, 0, none⟩) n c) docRows) (k : Nat) (hk : k < docRows.length) : C7 W g k docRows[k] := by
  have hn : n = docRows.length := by
    rcases h.2 with ⟨e, _⟩ | ⟨g', cap, cur, e, _⟩
    · cases e
    · injection e
  subst hn
  have q : ∀ j, j < 7 → W.cell? ⟨g, k * 7 + j, none⟩ = (cellsS docRows[k])[j]? := fun j hj => by
    rw [h.cellAt (k * 7 + j) (by omega)]
    exact flat7 cellsS (fun r => rfl) docRows k j hk hj
  exact ⟨q 0 (by omega), q 1 (by omega), q 2 (by omega), q 3 (by omega), q 4 (by omega), q 5 (by omega), q 6 (by omega)⟩
theorem os_shape {B : Nat} {W : World} {v : Value} (h : OS B W v docRows) : ∃ g c, v = .slice (some ⟨g, 0, none⟩) 118 c ∧ B ≤ g ∧ ∃ cur, W.heap[g]? = some (.cells cur 23 (0, 0)) ∧ 826 ≤ cur.size := by
  rcases h.2 with ⟨rfl, e⟩ | ⟨g, cap, cur, e, hb, hg, q1, q2, q3, q4⟩
  · rw [doc_len] at e; cases e
  · rw [doc_len] at e q1
    exact ⟨g, cap, e, hb, cur, hg, by omega⟩
theorem os_heap {B : Nat} {W : World} {g n c : Nat} (h : OS B W (.slice (some ⟨g, 0, none⟩) n c) docRows) : ∃ cur, W.heap[g]? = some (.cells cur 23 (0, 0)) := by
  rcases h.2 with ⟨e, _⟩ | ⟨g', cap, cur, e, hb, hg, _⟩
  · cases e
  · have : g = g' := by injection e with e1; injection e1 with e1; injection e1
    rw [this]
    exact ⟨cur, hg⟩
theorem os_keep {B : Nat} {W W' : World} {v : Value} (h : OS B W v docRows) (b : Below W.heap.size W W') : OS B W' v docRows := own_keep h fun k cs fz e => (b.block k (lt_of e)).trans e
/- seven stores into one block -/
abbrev st7 (W : World) (g : Nat) (o0 o1 o2 o3 o4 o5 o6 : Nat) (a0 a1 a2 a3 a4 a5 a6 : Value) : World := ((((((W.setCell ⟨g, o0, none⟩ a0).setCell ⟨g, o1, none⟩ a1).setCell ⟨g, o2, none⟩ a2).setCell ⟨g, o3, none⟩ a3).setCell ⟨g, o4, none⟩ a4).setCell ⟨g, o5, none⟩ a5).setCell ⟨g, o6, none⟩ a6
structure Sp (W : World) (g : Nat) (W5 : World) : Prop where
  bel : ∀ (w : World), Below w.heap.size w W → w.heap.size ≤ g → Below w.heap.size w W5
  ne : ∀ k, k ≠ g → W5.heap[k]? = W.heap[k]?
  size : W5.heap.size = W.heap.size
theorem st7_sp (W : World) (g : Nat) (o0 o1 o2 o3 o4 o5 o6 : Nat) (a0 a1 a2 a3 a4 a5 a6 : Value) : Sp W g (st7 W g o0 o1 o2 o3 o4 o5 o6 a0 a1 a2 a3 a4 a5 a6) :=
  ⟨fun w h hT => ((((((h.setCell hT a0).setCell hT a1).setCell hT a2).setCell hT a3).setCell hT a4).setCell hT a5).setCell hT a6, fun k h => by rw [set_ne h, set_ne h, set_ne h, set_ne h, set_ne h, set_ne h, set_ne h], by rw [size_set, size_set, size_set, size_set, size_set, size_set, size_set]⟩
theorem os_sp {B : Nat} {W W5 : World} {g g2 n c : Nat} (h : OS B W (.slice (some ⟨g2, 0, none⟩) n c) docRows) (sp : Sp W g W5) (hne : g2 ≠ g) : OS B W5 (.slice (some ⟨g2, 0, none⟩) n c) docRows := by
  refine ⟨h.1, h.2.imp id ?_⟩
  rintro ⟨g', cap, cur, e', hb', hg', r⟩
  have : g2 = g' := by injection e' with e1; injection e1 with e1; injection e1
  exact ⟨g', cap, cur, e', hb', (sp.ne g' (by rw [← this]; exact hne)).trans hg', r⟩
set_option maxHeartbeats 8000000 in
set_option maxRecDepth 100000 in
theorem rows_law (at' : Int) (w : World) : Calls Try.prog 4 #[.int .i64 at'] w fun e w' => e = .returned (.bool true) ∧ Below w.heap.size w w' := by
  have HA := hid_of all_call
  have HR := hid_of rows_call
  have HW := hid_of awake_call
  go_enter Try.func4, Try.ntmps4
  go_wp2_with fail
  refine (HA.out w).mono ?_
  rintro e w1 ⟨v1, rfl, o1, b1⟩
  obtain ⟨ga, ca, rfl, hga, _⟩ := os_shape o1
  have H1 := hid_of (And.intro o1 b1)
  have hlt1 : ga < w1.heap.size := (o1.lt ga rfl).2
  clear o1 b1
  go_wp2_with fail
  refine (HA.out w1).mono ?_
  rintro e w2 ⟨v2, rfl, o2, b2⟩
  obtain ⟨gb, cb, rfl, hgb, _⟩ := os_shape o2
  have H2 := hid_of (And.intro (os_keep H1.out.1 b2) (And.intro o2 (H1.out.2.trans (b2.mono H1.out.2.size))))
  have hlt2 : gb < w2.heap.size := (o2.lt gb rfl).2
  have s2 := b2.size
  clear o2 b2
  go_wp2_with fail
  refine (HR.out w2).mono ?_
  rintro e w3 ⟨rfl, hw3⟩
  have b3 : Below w2.heap.size w2 w3 := by rw [hw3]; exact (Below.refl _ w2).alloc (Nat.le_refl _) _
  have hd3 : w3.heap[w2.heap.size]? = some (.cells docCells 23 (0, 0)) := by rw [hw3]; exact heap_alloc_new w2 _
  have H3 := hid_of (And.intro (os_keep H2.out.1 b3) (And.intro (os_keep H2.out.2.1 b3) (And.intro (H2.out.2.2.trans (b3.mono H2.out.2.2.size)) hd3)))
  obtain ⟨gd, hgd⟩ : ∃ gd, gd = w2.heap.size := ⟨_, rfl⟩
  rw [← hgd] at H3 ⊢
  have HO : Hid (w.heap.size ≤ ga ∧ ga < gb ∧ gb < gd ∧ gd < w3.heap.size) := hid_of ⟨hga, by omega, by omega, by rw [hgd]; exact lt_of hd3⟩
  clear b3 hd3 hw3 hgd hga hgb hlt1 hlt2 s2
  go_wp2_with fail
  go_loopg [6] 118 (fun gk s6 wx => ∃ k : Nat, k ≤ 118 ∧ 118 ≤ k + gk ∧ s6 = .int .i64 (k : Int) ∧ Hid (∃ m, wx = w3.drewN m))
  case atStart => exact ⟨0, by omega, by omega, rfl, hid_of ⟨0, rfl⟩⟩
  case round =>
    obtain ⟨k, hk, hgk, rfl, I⟩ := hrel
    by_cases hlt : k < 118
    · obtain ⟨g', rfl⟩ : ∃ g', gk = g' + 1 := ⟨gk - 1, by omega⟩
      have hkl : k < docRows.length := by rw [doc_len]; exact hlt
      obtain ⟨m, hm⟩ := I.out
      obtain ⟨x0, x1, x2, x3, x4, x5, x6⟩ := os_c7 H3.out.1 k hkl
      obtain ⟨y0, y1, y2, y3, y4, y5, y6⟩ := doc_cells H3.out.2.2.2 k hkl
      have q : ∀ p, wr.cell? p = w3.cell? p := fun p => by rw [hm]; rfl
      rw [← q] at x0 x1 x2 x3 x4 x5 x6 y0 y1 y2 y3 y4 y5 y6
      generalize docRows[k] = r at *
      have he := neqS (mk r.name) r.arity r.wr r.ct r.first r.last r.step
      generalize mk r.name = NM at *
      have e2 : IntKind.i64.wrap ((k : Int) + 1) = (k : Int) + 1 := IntWalk.i64_in _ (by omega)
      have g1 : (k : Int) < 118 := by omega
      have HM := hid_of hm
      clear hm q hkl
      go_wp2_with fail
      go_quiet (fail)
      go_wp2_with fail
      go_roundg g'
      case measure => omega
      case rel => exact ⟨k + 1, by omega, by omega, by simp, hid_of ⟨m + nq, by rw [HM.out, World.drewN_drewN]⟩⟩
    · have g1 : ¬ (k : Int) < 118 := by omega
      obtain ⟨m, hm⟩ := I.out
      have O1 : OS w.heap.size wr (.slice (some ⟨ga, 0, none⟩) 118 ca) docRows := by rw [hm]; exact H3.out.1
      have O2 : OS w1.heap.size wr (.slice (some ⟨gb, 0, none⟩) 118 cb) docRows := by rw [hm]; exact H3.out.2.1
      have D2 : wr.heap[gd]? = some (.cells docCells 23 (0, 0)) := by rw [hm]; exact H3.out.2.2.2
      have BW : Below w.heap.size w wr := by rw [hm]; exact ⟨H3.out.2.2.1.os, H3.out.2.2.1.tape, H3.out.2.2.1.output, H3.out.2.2.1.size, H3.out.2.2.1.block⟩
      have hsz : gd < wr.heap.size := lt_of D2
      obtain ⟨cur, hcur⟩ := os_heap O1
      by_cases hneg : at' < 0
      · obtain ⟨r, hr⟩ : ∃ r, r = docRows[0]'(by rw [doc_len]; decide) := ⟨_, rfl⟩
        obtain ⟨NM, hNM⟩ : ∃ NM, NM = mk r.name := ⟨_, rfl⟩
        have he := eqlS NM r.arity r.wr r.ct r.first r.last r.step
        have x0 : ∃ v, wr.cell? ⟨ga, 0, none⟩ = some v := ⟨_, (os_c7 O1 0 (by rw [doc_len]; decide)).c0⟩
        obtain ⟨vx0, x0⟩ := x0
        have f0 : wr.frozen? ⟨ga, 0, none⟩ = false := Lib.frozen_of_heap hcur _
        have x1 : ∃ v, wr.cell? ⟨ga, 1, none⟩ = some v := ⟨_, (os_c7 O1 0 (by rw [doc_len]; decide)).c1⟩
        obtain ⟨vx1, x1⟩ := x1
        have f1 : wr.frozen? ⟨ga, 1, none⟩ = false := Lib.frozen_of_heap hcur _
        have x2 : ∃ v, wr.cell? ⟨ga, 2, none⟩ = some v := ⟨_, (os_c7 O1 0 (by rw [doc_len]; decide)).c2⟩
        obtain ⟨vx2, x2⟩ := x2
        have f2 : wr.frozen? ⟨ga, 2, none⟩ = false := Lib.frozen_of_heap hcur _
        have x3 : ∃ v, wr.cell? ⟨ga, 3, none⟩ = some v := ⟨_, (os_c7 O1 0 (by rw [doc_len]; decide)).c3⟩
        obtain ⟨vx3, x3⟩ := x3
        have f3 : wr.frozen? ⟨ga, 3, none⟩ = false := Lib.frozen_of_heap hcur _
        have x4 : ∃ v, wr.cell? ⟨ga, 4, none⟩ = some v := ⟨_, (os_c7 O1 0 (by rw [doc_len]; decide)).c4⟩
        obtain ⟨vx4, x4⟩ := x4
        have f4 : wr.frozen? ⟨ga, 4, none⟩ = false := Lib.frozen_of_heap hcur _
        have x5 : ∃ v, wr.cell? ⟨ga, 5, none⟩ = some v := ⟨_, (os_c7 O1 0 (by rw [doc_len]; decide)).c5⟩
        obtain ⟨vx5, x5⟩ := x5
        have f5 : wr.frozen? ⟨ga, 5, none⟩ = false := Lib.frozen_of_heap hcur _
        have x6 : ∃ v, wr.cell? ⟨ga, 6, none⟩ = some v := ⟨_, (os_c7 O1 0 (by rw [doc_len]; decide)).c6⟩
        obtain ⟨vx6, x6⟩ := x6
        have f6 : wr.frozen? ⟨ga, 6, none⟩ = false := Lib.frozen_of_heap hcur _
        obtain ⟨W5, hW5⟩ : ∃ W5, W5 = st7 wr ga (0) (1) (2) (3) (4) (5) (6) (.string ⟨#[115, 112, 111, 105, 108, 116]⟩) (.int .i64 0) (.bool false) (.bool false) (.int .i64 0) (.int .i64 0) (.int .i64 0) := ⟨_, rfl⟩
        have sp : Sp wr ga W5 := by rw [hW5]; exact st7_sp _ _ _ _ _ _ _ _ _ _ _ _ _ _ _ _
        have B5 : Below w.heap.size w W5 := sp.bel w BW HO.out.1
        have P2 := os_sp O2 sp (by have := HO.out; omega)
        have Q2 : W5.heap[gd]? = some (.cells docCells 23 (0, 0)) := (sp.ne gd (by have := HO.out; omega)).trans D2
        have H5 := hid_of (And.intro B5 (And.intro P2 Q2))
        have HA5 := hid_of (HA.out W5)
        simp only [st7] at hW5
        have HW5 := hid_of hW5
        clear B5 P2 Q2 sp O1 O2 D2 BW hm hcur HA hW5
        go_wp2_with fail
        rw [← HW5.out]
        refine HA5.out.mono ?_
        rintro e w6 ⟨v6, rfl, o6, b6⟩
        obtain ⟨gc, cc, rfl, hgc, _⟩ := os_shape o6
        have R2 := os_keep H5.out.2.1 b6
        have S2 := (b6.block _ (lt_of H5.out.2.2)).trans H5.out.2.2
        have HC : Hid (∀ V, Below w6.heap.size w6 V → (V.cell? ⟨gb, 0, none⟩ = some (.string NM) ∧ V.cell? ⟨gb, 1, none⟩ = some (.int .i64 r.arity) ∧ V.cell? ⟨gb, 2, none⟩ = some (.bool r.wr) ∧ V.cell? ⟨gb, 3, none⟩ = some (.bool r.ct) ∧ V.cell? ⟨gb, 4, none⟩ = some (.int .i64 r.first) ∧ V.cell? ⟨gb, 5, none⟩ = some (.int .i64 r.last) ∧ V.cell? ⟨gb, 6, none⟩ = some (.int .i64 r.step)) ∧ (V.cell? ⟨gd, 0, none⟩ = some (.string NM) ∧ V.cell? ⟨gd, 1, none⟩ = some (.int .i64 r.arity) ∧ V.cell? ⟨gd, 2, none⟩ = some (.bool r.wr) ∧ V.cell? ⟨gd, 3, none⟩ = some (.bool r.ct) ∧ V.cell? ⟨gd, 4, none⟩ = some (.int .i64 r.first) ∧ V.cell? ⟨gd, 5, none⟩ = some (.int .i64 r.last) ∧ V.cell? ⟨gd, 6, none⟩ = some (.int .i64 r.step)) ∧ (V.cell? ⟨gc, 0, none⟩ = some (.string NM) ∧ V.cell? ⟨gc, 1, none⟩ = some (.int .i64 r.arity) ∧ V.cell? ⟨gc, 2, none⟩ = some (.bool r.wr) ∧ V.cell? ⟨gc, 3, none⟩ = some (.bool r.ct) ∧ V.cell? ⟨gc, 4, none⟩ = some (.int .i64 r.first) ∧ V.cell? ⟨gc, 5, none⟩ = some (.int .i64 r.last) ∧ V.cell? ⟨gc, 6, none⟩ = some (.int .i64 r.step))) := hid_of fun V b => by
          rw [hNM, hr]
          have z1 := os_c7 (os_keep R2 b) 0 (by rw [doc_len]; decide)
          have z2 := doc_cells ((b.block _ (lt_of S2)).trans S2) 0 (by rw [doc_len]; decide)
          have z3 := os_c7 (os_keep o6 b) 0 (by rw [doc_len]; decide)
          exact ⟨⟨z1.c0, z1.c1, z1.c2, z1.c3, z1.c4, z1.c5, z1.c6⟩, z2, ⟨z3.c0, z3.c1, z3.c2, z3.c3, z3.c4, z3.c5, z3.c6⟩⟩
        have c6 := HC.out w6 (Below.refl _ _)
        have HB6 := hid_of (H5.out.1.trans (b6.mono H5.out.1.size))
        have HW6 := hid_of (HW.out)
        clear o6 b6 R2 S2 hNM hr
        go_wp2_with fail
        go_region_held3 (fun U => (U.cell? ⟨gb, 0, none⟩ = some (.string NM) ∧ U.cell? ⟨gb, 1, none⟩ = some (.int .i64 r.arity) ∧ U.cell? ⟨gb, 2, none⟩ = some (.bool r.wr) ∧ U.cell? ⟨gb, 3, none⟩ = some (.bool r.ct) ∧ U.cell? ⟨gb, 4, none⟩ = some (.int .i64 r.first) ∧ U.cell? ⟨gb, 5, none⟩ = some (.int .i64 r.last) ∧ U.cell? ⟨gb, 6, none⟩ = some (.int .i64 r.step)) ∧ (U.cell? ⟨gd, 0, none⟩ = some (.string NM) ∧ U.cell? ⟨gd, 1, none⟩ = some (.int .i64 r.arity) ∧ U.cell? ⟨gd, 2, none⟩ = some (.bool r.wr) ∧ U.cell? ⟨gd, 3, none⟩ = some (.bool r.ct) ∧ U.cell? ⟨gd, 4, none⟩ = some (.int .i64 r.first) ∧ U.cell? ⟨gd, 5, none⟩ = some (.int .i64 r.last) ∧ U.cell? ⟨gd, 6, none⟩ = some (.int .i64 r.step)) ∧ (U.cell? ⟨gc, 0, none⟩ = some (.string NM) ∧ U.cell? ⟨gc, 1, none⟩ = some (.int .i64 r.arity) ∧ U.cell? ⟨gc, 2, none⟩ = some (.bool r.wr) ∧ U.cell? ⟨gc, 3, none⟩ = some (.bool r.ct) ∧ U.cell? ⟨gc, 4, none⟩ = some (.int .i64 r.first) ∧ U.cell? ⟨gc, 5, none⟩ = some (.int .i64 r.last) ∧ U.cell? ⟨gc, 6, none⟩ = some (.int .i64 r.step))) (first | exact c6 | exact HC.out _ b7) (first
          | (go_at_call 12; refine (HW6.out _).mono ?_; rintro e w7 ⟨rfl, b8⟩; have b7 : Below w6.heap.size w6 w7 := ⟨b8.os, b8.tape, b8.output, b8.size, b8.block⟩; clear b8))
        have HB7 := hid_of (HB6.out.trans (b7.mono HB6.out.size))
        clear b7 c6
        go_wp2_with fail
        go_ret
        exact ⟨rfl, HB7.out⟩
      · obtain ⟨M, hM, hMa⟩ : ∃ M : Nat, M < 118 ∧ at'.tmod 118 = (M : Int) := by
          refine ⟨at'.toNat % 118, Nat.mod_lt _ (by omega), ?_⟩
          rw [Int.tmod_eq_emod_of_nonneg (by omega)]
          omega
        have hMl : M < docRows.length := by rw [doc_len]; exact hM
        obtain ⟨r, hr⟩ : ∃ r, r = docRows[M] := ⟨_, rfl⟩
        obtain ⟨NM, hNM⟩ : ∃ NM, NM = mk r.name := ⟨_, rfl⟩
        have he := eqlS NM r.arity r.wr r.ct r.first r.last r.step
        have hM2 : (M : Int) < 118 := by omega
        have hMw : IntKind.i64.wrap (at'.tmod 118) = (M : Int) := by rw [hMa]; exact IntWalk.i64_in _ (by omega)
        have hMw2 : IntKind.i64.wrap (M : Int) = (M : Int) := IntWalk.i64_in _ (by omega)
        have x0 : ∃ v, wr.cell? ⟨ga, M * 7, none⟩ = some v := ⟨_, (os_c7 O1 M hMl).c0⟩
        obtain ⟨vx0, x0⟩ := x0
        have f0 : wr.frozen? ⟨ga, M * 7, none⟩ = false := Lib.frozen_of_heap hcur _
        have x1 : ∃ v, wr.cell? ⟨ga, M * 7 + 1, none⟩ = some v := ⟨_, (os_c7 O1 M hMl).c1⟩
        obtain ⟨vx1, x1⟩ := x1
        have f1 : wr.frozen? ⟨ga, M * 7 + 1, none⟩ = false := Lib.frozen_of_heap hcur _
        have x2 : ∃ v, wr.cell? ⟨ga, M * 7 + 2, none⟩ = some v := ⟨_, (os_c7 O1 M hMl).c2⟩
        obtain ⟨vx2, x2⟩ := x2
        have f2 : wr.frozen? ⟨ga, M * 7 + 2, none⟩ = false := Lib.frozen_of_heap hcur _
        have x3 : ∃ v, wr.cell? ⟨ga, M * 7 + 3, none⟩ = some v := ⟨_, (os_c7 O1 M hMl).c3⟩
        obtain ⟨vx3, x3⟩ := x3
        have f3 : wr.frozen? ⟨ga, M * 7 + 3, none⟩ = false := Lib.frozen_of_heap hcur _
        have x4 : ∃ v, wr.cell? ⟨ga, M * 7 + 4, none⟩ = some v := ⟨_, (os_c7 O1 M hMl).c4⟩
        obtain ⟨vx4, x4⟩ := x4
        have f4 : wr.frozen? ⟨ga, M * 7 + 4, none⟩ = false := Lib.frozen_of_heap hcur _
        have x5 : ∃ v, wr.cell? ⟨ga, M * 7 + 5, none⟩ = some v := ⟨_, (os_c7 O1 M hMl).c5⟩
        obtain ⟨vx5, x5⟩ := x5
        have f5 : wr.frozen? ⟨ga, M * 7 + 5, none⟩ = false := Lib.frozen_of_heap hcur _
        have x6 : ∃ v, wr.cell? ⟨ga, M * 7 + 6, none⟩ = some v := ⟨_, (os_c7 O1 M hMl).c6⟩
        obtain ⟨vx6, x6⟩ := x6
        have f6 : wr.frozen? ⟨ga, M * 7 + 6, none⟩ = false := Lib.frozen_of_heap hcur _
        obtain ⟨W5, hW5⟩ : ∃ W5, W5 = st7 wr ga (M * 7) (M * 7 + 1) (M * 7 + 2) (M * 7 + 3) (M * 7 + 4) (M * 7 + 5) (M * 7 + 6) (.string ⟨#[115, 112, 111, 105, 108, 116]⟩) (.int .i64 0) (.bool false) (.bool false) (.int .i64 0) (.int .i64 0) (.int .i64 0) := ⟨_, rfl⟩
        have sp : Sp wr ga W5 := by rw [hW5]; exact st7_sp _ _ _ _ _ _ _ _ _ _ _ _ _ _ _ _
        have B5 : Below w.heap.size w W5 := sp.bel w BW HO.out.1
        have P2 := os_sp O2 sp (by have := HO.out; omega)
        have Q2 : W5.heap[gd]? = some (.cells docCells 23 (0, 0)) := (sp.ne gd (by have := HO.out; omega)).trans D2
        have H5 := hid_of (And.intro B5 (And.intro P2 Q2))
        have HA5 := hid_of (HA.out W5)
        simp only [st7] at hW5
        have HW5 := hid_of hW5
        clear B5 P2 Q2 sp O1 O2 D2 BW hm hcur HA hW5
        go_wp2_with fail
        rw [← HW5.out]
        refine HA5.out.mono ?_
        rintro e w6 ⟨v6, rfl, o6, b6⟩
        obtain ⟨gc, cc, rfl, hgc, _⟩ := os_shape o6
        have R2 := os_keep H5.out.2.1 b6
        have S2 := (b6.block _ (lt_of H5.out.2.2)).trans H5.out.2.2
        have HC : Hid (∀ V, Below w6.heap.size w6 V → (V.cell? ⟨gb, M * 7, none⟩ = some (.string NM) ∧ V.cell? ⟨gb, M * 7 + 1, none⟩ = some (.int .i64 r.arity) ∧ V.cell? ⟨gb, M * 7 + 2, none⟩ = some (.bool r.wr) ∧ V.cell? ⟨gb, M * 7 + 3, none⟩ = some (.bool r.ct) ∧ V.cell? ⟨gb, M * 7 + 4, none⟩ = some (.int .i64 r.first) ∧ V.cell? ⟨gb, M * 7 + 5, none⟩ = some (.int .i64 r.last) ∧ V.cell? ⟨gb, M * 7 + 6, none⟩ = some (.int .i64 r.step)) ∧ (V.cell? ⟨gd, M * 7, none⟩ = some (.string NM) ∧ V.cell? ⟨gd, M * 7 + 1, none⟩ = some (.int .i64 r.arity) ∧ V.cell? ⟨gd, M * 7 + 2, none⟩ = some (.bool r.wr) ∧ V.cell? ⟨gd, M * 7 + 3, none⟩ = some (.bool r.ct) ∧ V.cell? ⟨gd, M * 7 + 4, none⟩ = some (.int .i64 r.first) ∧ V.cell? ⟨gd, M * 7 + 5, none⟩ = some (.int .i64 r.last) ∧ V.cell? ⟨gd, M * 7 + 6, none⟩ = some (.int .i64 r.step)) ∧ (V.cell? ⟨gc, M * 7, none⟩ = some (.string NM) ∧ V.cell? ⟨gc, M * 7 + 1, none⟩ = some (.int .i64 r.arity) ∧ V.cell? ⟨gc, M * 7 + 2, none⟩ = some (.bool r.wr) ∧ V.cell? ⟨gc, M * 7 + 3, none⟩ = some (.bool r.ct) ∧ V.cell? ⟨gc, M * 7 + 4, none⟩ = some (.int .i64 r.first) ∧ V.cell? ⟨gc, M * 7 + 5, none⟩ = some (.int .i64 r.last) ∧ V.cell? ⟨gc, M * 7 + 6, none⟩ = some (.int .i64 r.step))) := hid_of fun V b => by
          rw [hNM, hr]
          have z1 := os_c7 (os_keep R2 b) M hMl
          have z2 := doc_cells ((b.block _ (lt_of S2)).trans S2) M hMl
          have z3 := os_c7 (os_keep o6 b) M hMl
          exact ⟨⟨z1.c0, z1.c1, z1.c2, z1.c3, z1.c4, z1.c5, z1.c6⟩, z2, ⟨z3.c0, z3.c1, z3.c2, z3.c3, z3.c4, z3.c5, z3.c6⟩⟩
        have c6 := HC.out w6 (Below.refl _ _)
        have HB6 := hid_of (H5.out.1.trans (b6.mono H5.out.1.size))
        have HW6 := hid_of (HW.out)
        clear o6 b6 R2 S2 hNM hr
        go_wp2_with fail
        go_region_held3 (fun U => (U.cell? ⟨gb, M * 7, none⟩ = some (.string NM) ∧ U.cell? ⟨gb, M * 7 + 1, none⟩ = some (.int .i64 r.arity) ∧ U.cell? ⟨gb, M * 7 + 2, none⟩ = some (.bool r.wr) ∧ U.cell? ⟨gb, M * 7 + 3, none⟩ = some (.bool r.ct) ∧ U.cell? ⟨gb, M * 7 + 4, none⟩ = some (.int .i64 r.first) ∧ U.cell? ⟨gb, M * 7 + 5, none⟩ = some (.int .i64 r.last) ∧ U.cell? ⟨gb, M * 7 + 6, none⟩ = some (.int .i64 r.step)) ∧ (U.cell? ⟨gd, M * 7, none⟩ = some (.string NM) ∧ U.cell? ⟨gd, M * 7 + 1, none⟩ = some (.int .i64 r.arity) ∧ U.cell? ⟨gd, M * 7 + 2, none⟩ = some (.bool r.wr) ∧ U.cell? ⟨gd, M * 7 + 3, none⟩ = some (.bool r.ct) ∧ U.cell? ⟨gd, M * 7 + 4, none⟩ = some (.int .i64 r.first) ∧ U.cell? ⟨gd, M * 7 + 5, none⟩ = some (.int .i64 r.last) ∧ U.cell? ⟨gd, M * 7 + 6, none⟩ = some (.int .i64 r.step)) ∧ (U.cell? ⟨gc, M * 7, none⟩ = some (.string NM) ∧ U.cell? ⟨gc, M * 7 + 1, none⟩ = some (.int .i64 r.arity) ∧ U.cell? ⟨gc, M * 7 + 2, none⟩ = some (.bool r.wr) ∧ U.cell? ⟨gc, M * 7 + 3, none⟩ = some (.bool r.ct) ∧ U.cell? ⟨gc, M * 7 + 4, none⟩ = some (.int .i64 r.first) ∧ U.cell? ⟨gc, M * 7 + 5, none⟩ = some (.int .i64 r.last) ∧ U.cell? ⟨gc, M * 7 + 6, none⟩ = some (.int .i64 r.step))) (first | exact c6 | exact HC.out _ b7) (first
          | (go_at_call 12; refine (HW6.out _).mono ?_; rintro e w7 ⟨rfl, b8⟩; have b7 : Below w6.heap.size w6 w7 := ⟨b8.os, b8.tape, b8.output, b8.size, b8.block⟩; clear b8))
        have HB7 := hid_of (HB6.out.trans (b7.mono HB6.out.size))
        clear b7 c6
        go_wp2_with fail
        go_ret
        exact ⟨rfl, HB7.out⟩
end Go.Proofs.Ytgmnmcaclpfknaa.LawR
