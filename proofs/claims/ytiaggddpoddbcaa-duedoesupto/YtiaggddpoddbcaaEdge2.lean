/- The places of a row: Pop, Push, Swap; the thing. -/
import Derived.Test.YtiaggddpoddbcaaEdge
import Derived.Test.YtiaggddpoddbcaaPushR
import Derived.BigRegion
namespace Go.Proofs.Ytiaggddpoddbcaa.Edge
open Go.RowKit Go.Maps
open Go.Proofs.Ytiaggddpoddbcaa.HeapMath
open Go.Proofs.Ytiaggddpoddbcaa.Heap
open Go.Proofs.Ytiaggddpoddbcaa.Turn
open Go.Proofs.Ytiaggddpoddbcaa.Before
open Go.Proofs.Ytiaggddpoddbcaa.RowB
open Go.Proofs.Ytiaggddpoddbcaa.ThingS
set_option linter.unusedVariables false
set_option linter.unusedSimpArgs false
theorem size3 (w : World) : (Go.sizeOf 3).run Try.prog w = .ok 1 w := by kernel_rfl
theorem cut_hi (a : Option Addr) (n c j : Nat) (y : Int) (hy : y = j) (hj : j ≤ c) (w : World) :
    (Instr.slice 37 (.slice a n c) none (some (.int .i64 y)) none).run Try.prog w = .ok (.slice (if c = 0 then a else a.map (·.add 0)) j c) w := by
  subst hy
  have h2 : (j : Int) ≤ c := by omega
  simp [Instr.slice, run_underlying Try.underlying37, Instr.sliceBounds, run_sliceBound, size3, h2]
theorem cut_hi' (q n c j : Nat) (y : Int) (hy : y = j) (hj : j ≤ c) (w : World) :
    (Instr.slice 37 (.slice (some ⟨q, 0, none⟩) n c) none (some (.int .i64 y)) none).run Try.prog w = .ok (.slice (some ⟨q, 0, none⟩) j c) w := by
  rw [cut_hi (some ⟨q, 0, none⟩) n c j y hy hj w]
  split <;> simp [Addr.add]
theorem grow1 {B : Nat} {w w' : World} {k : Nat} (h : w.grownBy w' (some k)) (hk : B ≤ k) (hB : B ≤ w.heap.size) : Below B w w' := ⟨h.os, h.tape, h.output, h.size, fun i hi => h.block i (by omega) (by intro e; cases e; omega)⟩
theorem set_below {B : Nat} {w : World} {b i : Nat} (hb : B ≤ b) (v : Value) : Below B w (w.setCell ⟨b, i, none⟩ v) := (Below.refl B w).setCell hb v
theorem own_take {B : Nat} {w : World} {q n c : Nat} {ps : List Nat} (h : w.ownsRow B 3 1 (.slice (some ⟨q, 0, none⟩) n c) n (ps.map iv)) (hn : n = ps.length) (m : Nat) (hm : m ≤ n) : w.ownsRow B 3 1 (.slice (some ⟨q, 0, none⟩) m c) (ps.take m).length ((ps.take m).map iv) := by
  have hl : (ps.take m).length = m := by rw [List.length_take]; omega
  rw [hl]
  refine ⟨by rw [List.length_map, hl]; omega, ?_⟩
  rcases h.2 with ⟨e, _⟩ | ⟨g, cap, cur, e, hb, hg, r1, r2, r3, r4⟩
  · cases e
  · injection e with e1 _ e3
    injection e1 with e1
    injection e1 with e1
    subst e1 e3
    refine .inr ⟨q, c, cur, rfl, hb, hg, by omega, r2, r3, ?_⟩
    rw [List.map_take, ← r4, List.take_take, Nat.mul_one, Nat.mul_one, Nat.min_eq_left hm]
set_option maxHeartbeats 2000000 in
set_option maxRecDepth 100000 in
theorem pop_call {B e g c : Nat} {l : Es} {w : World} {ps : List Nat} (h : EG B e g c l w ps) (h0 : 0 < ps.length) :
    Calls Try.prog 90 #[ptr e] w fun r w' => r = .returned (.iface 3 (iv (pl ps (ps.length - 1)))) ∧ EG B e g c l w' (ps.take (ps.length - 1)) ∧ Tr B w w' := by
  obtain ⟨pv, h1, h2⟩ := h.box
  obtain ⟨q, k, rfl, hBq, hk, ⟨cur, hq⟩, hc, _⟩ := prow h2 h0
  have c1 : w.cell? ⟨e, 1, none⟩ = some (.slice (some ⟨q, 0, none⟩) ps.length k) := Lib.cell_of_heap h1 1
  have z1 : w.frozen? ⟨e, 1, none⟩ = false := Lib.frozen_of_heap h1 1
  have x0 := hc (ps.length - 1) (by omega)
  rw [← pl_in (show ps.length - 1 < ps.length by omega)] at x0
  have hne : q ≠ e := by
    rintro rfl
    rw [hq] at h1
    injection h1 with h1
    injection h1 with _ h1
    cases h1
  have HR : Hid (EG B e g c l (w.setCell ⟨e, 1, none⟩ (.slice (some ⟨q, 0, none⟩) (ps.length - 1) k)) (ps.take (ps.length - 1)) ∧ Tr B w (w.setCell ⟨e, 1, none⟩ (.slice (some ⟨q, 0, none⟩) (ps.length - 1) k))) := hid_of (by
    have hb := set_below (w := w) (i := 1) h.be (.slice (some ⟨q, 0, none⟩) (ps.length - 1) k)
    refine ⟨⟨⟨_, set_at h1 _, ?_⟩, h.be, h.hg, Nat.le_trans h.bw hb.size, h.ent.keep (hb.block _ h.hg), fun p hp => h.ins p (List.mem_of_mem_take hp), by rw [List.length_take]; have := h.small; omega, h.wide⟩, Tr.set h1 (.inl rfl) h.be _⟩
    have := own_take h2 rfl (ps.length - 1) (by omega)
    refine ⟨this.1, this.2.imp id ?_⟩
    rintro ⟨g', cap, cur', e', hb', hg', r⟩
    obtain rfl : q = g' := by injection e' with e'; injection e' with e'; injection e'
    exact ⟨q, cap, cur', e', hb', (set_ne hne _).trans hg', r⟩)
  have hs := h.small
  obtain ⟨N, hN⟩ : ∃ N, N = ps.length - 1 := ⟨_, rfl⟩
  have hcut := cut_hi' q ps.length k N (N : Int) rfl (by omega)
  have e1 : IntKind.i64.wrap ((ps.length : Int) - 1) = (N : Int) := by rw [IntWalk.i64_in _ (by omega)]; omega
  have e2 : (ps.length : Int) - 1 = (N : Int) := by omega
  have d1 : (N : Int) < (ps.length : Int) := by omega
  rw [← hN] at HR x0 ⊢
  clear h h1 h2 hc hq hN
  generalize pl ps N = P at *
  go_enter Try.func90, Try.ntmps90
  go_wp2_with fail
  go_ret
  exact ⟨rfl, HR.out⟩
theorem set_row {B : Nat} {w : World} {q n c : Nat} {xs : List Value} (h : w.ownsRow B 3 1 (.slice (some ⟨q, 0, none⟩) n c) n xs) (i : Nat) (hi : i < n) (v : Value) : (w.setCell ⟨q, i, none⟩ v).ownsRow B 3 1 (.slice (some ⟨q, 0, none⟩) n c) n (xs.set i v) := by
  refine ⟨by rw [List.length_set]; exact h.1, ?_⟩
  rcases h.2 with ⟨e, _⟩ | ⟨g, cap, cur, e, hb, hg, r1, r2, r3, r4⟩
  · cases e
  · injection e with e1 _ e3
    injection e1 with e1
    injection e1 with e1
    subst e1 e3
    refine .inr ⟨q, c, _, rfl, hb, set_at hg v, r1, r2, by rw [Array.size_setIfInBounds]; exact r3, ?_⟩
    rw [Array.toList_setIfInBounds, List.take_set, r4]
theorem swp_map (ps : List Nat) (i j : Nat) (hi : i < ps.length) (hj : j < ps.length) : (swp ps i j).map iv = ((ps.map iv).set i (iv (pl ps j))).set j (iv (pl ps i)) := by
  unfold swp
  rw [List.map_set, List.map_set]
set_option maxHeartbeats 4000000 in
set_option maxRecDepth 100000 in
theorem swap_raw (e q n c i j : Nat) (w : World) (P Q : Int) (hi : i < n) (hj : j < n) (hn : n < 1099511627776)
    (c1 : w.cell? ⟨e, 1, none⟩ = some (.slice (some ⟨q, 0, none⟩) n c)) (i0 : w.cell? ⟨q, i, none⟩ = some (.int .i64 P)) (j0 : w.cell? ⟨q, j, none⟩ = some (.int .i64 Q)) (fi : w.frozen? ⟨q, i, none⟩ = false) (fj : w.frozen? ⟨q, j, none⟩ = false) (hij : i ≠ j) (hqe : e ≠ q) :
    Calls Try.prog 92 #[ptr e, .int .i64 (i : Int), .int .i64 (j : Int)] w fun r w' => r = .returned (.tuple #[]) ∧ w' = ((w.setCell ⟨q, i, none⟩ (.int .i64 Q)).setCell ⟨q, j, none⟩ (.int .i64 P)).drew := by
  have d1 : (i : Int) < (n : Int) := by omega
  have d2 : (j : Int) < (n : Int) := by omega
  go_enter Try.func92, Try.ntmps92
  go_wp2_with fail
  go_region
  go_end0
  exact ⟨rfl, rfl⟩
set_option maxHeartbeats 4000000 in
set_option maxRecDepth 100000 in
theorem swap_raw1 (e q n c i : Nat) (w : World) (P : Int) (hi : i < n) (hn : n < 1099511627776)
    (c1 : w.cell? ⟨e, 1, none⟩ = some (.slice (some ⟨q, 0, none⟩) n c)) (i0 : w.cell? ⟨q, i, none⟩ = some (.int .i64 P)) (fi : w.frozen? ⟨q, i, none⟩ = false) (hqe : e ≠ q) (q0 : (w.setCell ⟨q, i, none⟩ (.int .i64 P)).cell? ⟨q, i, none⟩ = some (.int .i64 P)) :
    Calls Try.prog 92 #[ptr e, .int .i64 (i : Int), .int .i64 (i : Int)] w fun r w' => r = .returned (.tuple #[]) ∧ w' = ((w.setCell ⟨q, i, none⟩ (.int .i64 P)).setCell ⟨q, i, none⟩ (.int .i64 P)).drew := by
  have d1 : (i : Int) < (n : Int) := by omega
  go_enter Try.func92, Try.ntmps92
  go_wp2_with fail
  go_region
  go_end0
  exact ⟨rfl, rfl⟩
theorem isInt (v : Value) (w : World) : (Instr.typeAssert (.iface 3 v) 20 3 false).run Try.prog w = .ok v w := by kernel_rfl
end Go.Proofs.Ytiaggddpoddbcaa.Edge
