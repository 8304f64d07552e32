/- A step, whatever the plan. -/
import Derived.Test.YtilbffbmpgebmaaOps3
namespace Go.Proofs.Ytilbffbmpgebmaa.Step
open Go.RowKit Go.Maps
open Go.Proofs.Ytilbffbmpgebmaa.DiskMath
open Go.Proofs.Ytilbffbmpgebmaa.Base
open Go.Proofs.Ytilbffbmpgebmaa.Small
open Go.Proofs.Ytilbffbmpgebmaa.Find
set_option linter.unusedVariables false

/- what is left of a plan -/
theorem plan_rest {w : World} {g o cap : Nat} {cur : Array Value} {f : Ft} {r : List Ft} (hg : w.heap[g]? = some (.cells cur 58 (0, 0))) (hc1 : (f :: r).length ≤ cap) (hc2 : cap ≤ maxLen) (hc : ∀ j : Nat, j < (f :: r).length * 3 → cur[o + j]? = ((f :: r).flatMap ftCells)[j]?) :
    PlanAt w (sliced (some ⟨g, o, none⟩) 1 (f :: r).length cap 3) r := by
  have hl : (f :: r).length = r.length + 1 := rfl
  unfold sliced
  cases r with
  | nil => exact Or.inl ⟨rfl, _, _, rfl⟩
  | cons f2 r2 =>
    right
    have hl2 : (f :: f2 :: r2).length = r2.length + 2 := rfl
    have hne : cap ≠ 1 := by omega
    rw [if_neg hne]
    refine ⟨g, o + 3, cap - 1, cur, ?_, by simp, hg, by simp at hc1 ⊢; omega, by omega, fun j hj => ?_⟩
    · simp [Addr.add]
    · have h1 := hc (3 + j) (by simp at hj ⊢; omega)
      rw [show o + 3 + j = o + (3 + j) by omega, h1]
      show ((ftCells f ++ (f2 :: r2).flatMap ftCells))[3 + j]? = _
      rw [List.getElem?_append_right (by simp [ftCells])]
      congr 1
      simp [ftCells]
theorem und29 : Try.prog.underlying 29 = some (.slice (Try.prog.elem 29)) := by kernel_rfl
theorem el29 : Try.prog.elem 29 = 58 := by kernel_rfl
set_option maxHeartbeats 4000000 in
set_option maxRecDepth 100000 in
theorem step_plan (base b : Nat) (d : Dk) (f : Ft) (r : List Ft) (hp : d.plan = f :: r) (hst : d.steps < 1099511627776) : StepC base b d := by
  intro y w h
  have hpl := h.pl
  rw [hp] at hpl
  obtain ⟨g, o, cap, cur, hpv, hpos, hg, hcp, hcm, hcells⟩ : ∃ g o cap cur, y.pv = .slice (some ⟨g, o, none⟩) (f :: r).length cap ∧ 0 < (f :: r).length ∧ w.heap[g]? = some (.cells cur 58 (0, 0)) ∧ (f :: r).length ≤ cap ∧ cap ≤ maxLen ∧ ∀ j : Nat, j < (f :: r).length * 3 → cur[o + j]? = ((f :: r).flatMap ftCells)[j]? := by
    rcases hpl with ⟨e, _⟩ | hh
    · cases e
    · exact hh
  have c4 : w.cell? ⟨b, 4, none⟩ = some (.int .i64 d.steps) := h.cell 4
  have f4 : w.frozen? ⟨b, 4, none⟩ = false := h.frozen 4
  have hgb : g ≠ b := fun e => by
    rw [e, h.disk] at hg
    cases hg
  have e1 : IntKind.i64.wrap ((d.steps : Int) + 1) = (d.steps : Int) + 1 := IntWalk.i64_in _ (by omega)
  have hl3 : (f :: r).length * 3 = r.length * 3 + 3 := by simp [Nat.add_mul]
  have p0 : w.cell? ⟨g, o, none⟩ = some (.int .i64 f.step) := by
    rw [Lib.cell_of_heap hg o]
    have := hcells 0 (by omega)
    rw [Nat.add_zero] at this
    exact this
  have p1 : w.cell? ⟨g, o + 1, none⟩ = some (.int .i64 f.kind) := by
    rw [Lib.cell_of_heap hg (o + 1)]
    exact hcells 1 (by omega)
  have p2 : w.cell? ⟨g, o + 2, none⟩ = some (.int .i64 f.n) := by
    rw [Lib.cell_of_heap hg (o + 2)]
    exact hcells 2 (by omega)
  have hd1 := set_at (i := 4) h.disk (.int .i64 ((d.steps : Int) + 1))
  have hg1 : (w.setCell ⟨b, 4, none⟩ (.int .i64 ((d.steps : Int) + 1))).heap[g]? = some (.cells cur 58 (0, 0)) := (set_ne hgb _).trans hg
  obtain ⟨w1, hw1⟩ : ∃ w1, w1 = w.setCell ⟨b, 4, none⟩ (.int .i64 ((d.steps : Int) + 1)) := ⟨_, rfl⟩
  rw [← hw1] at hd1 hg1
  have c3 : w1.cell? ⟨b, 3, none⟩ = some (.slice (some ⟨g, o, none⟩) (f :: r).length cap) := by
    rw [Lib.cell_of_heap hd1 3]
    simp [hpv]
  have c4' : w1.cell? ⟨b, 4, none⟩ = some (.int .i64 ((d.steps : Int) + 1)) := by
    rw [Lib.cell_of_heap hd1 4]
    simp
  have c5 : w1.cell? ⟨b, 5, none⟩ = some (.bool d.down) := by
    rw [Lib.cell_of_heap hd1 5]
    simp
  have f3 : w1.frozen? ⟨b, 3, none⟩ = false := Lib.frozen_of_heap hd1 3
  have f5 : w1.frozen? ⟨b, 5, none⟩ = false := Lib.frozen_of_heap hd1 5
  have q0 : w1.cell? ⟨g, o, none⟩ = some (.int .i64 f.step) := by rw [Lib.cell_of_heap hg1 o, ← Lib.cell_of_heap hg o]; exact p0
  have q1 : w1.cell? ⟨g, o + 1, none⟩ = some (.int .i64 f.kind) := by rw [Lib.cell_of_heap hg1 (o + 1), ← Lib.cell_of_heap hg (o + 1)]; exact p1
  have q2 : w1.cell? ⟨g, o + 2, none⟩ = some (.int .i64 f.n) := by rw [Lib.cell_of_heap hg1 (o + 2), ← Lib.cell_of_heap hg (o + 2)]; exact p2
  obtain ⟨len, hlend⟩ : ∃ len, len = (f :: r).length := ⟨_, rfl⟩
  have hlen : len = r.length + 1 := hlend
  rw [← hlend] at c3 hcp
  have gl : ((len : Int) == 0) = false := by rw [beq_eq_false_iff_ne]; omega
  have hl1 : 1 ≤ len := by omega
  clear hlen
  have HPR := hid_of (fun (W : World) (hW : W.heap[g]? = some (.cells cur 58 (0, 0))) => plan_rest (w := W) hW (by rw [← hlend]; exact hcp) hcm hcells)
  rw [← hlend] at HPR
  have HG1 := hid_of hg1
  have HD1 := hid_of hd1
  have HW1 := hid_of hw1
  have H := hid_of h
  have HPV := hid_of (And.intro hpv hlend)
  have HE1 : Hid (Ev DT base w w1) := by rw [hw1]; exact Ev.set h.disk h.bb rfl _
  have hok := hid_of (ok_step h.ok)
  clear h hpl hd1 hg1 hw1 p0 p1 p2 hg hpv hlend hcells hl3 hpos
  by_cases hs : f.step = (d.steps : Int) + 1
  · have s1 : (f.step == (d.steps : Int) + 1) = true := by rw [beq_iff_eq]; exact hs
    have s2 : (f.step != (d.steps : Int) + 1) = false := by unfold bne; rw [s1]; rfl
    have HS := hid_of hs
    clear hs
    unfold ptr
    go_enter Try.func50, Try.ntmps50
    go_wp2_with fail
    rw [← HW1.out]
    go_quiet (fail)
    obtain ⟨w2, hw2⟩ : ∃ w2, w2 = w1.drewN nq := ⟨_, rfl⟩
    rw [← hw2]
    have c3' : w2.cell? ⟨b, 3, none⟩ = some (.slice (some ⟨g, o, none⟩) len cap) := by rw [hw2]; exact c3
    have c5' : w2.cell? ⟨b, 5, none⟩ = some (.bool d.down) := by rw [hw2]; exact c5
    have f3' : w2.frozen? ⟨b, 3, none⟩ = false := by rw [hw2]; exact f3
    have f5' : w2.frozen? ⟨b, 5, none⟩ = false := by rw [hw2]; exact f5
    have q0' : w2.cell? ⟨g, o, none⟩ = some (.int .i64 f.step) := by rw [hw2]; exact q0
    have q1' : w2.cell? ⟨g, o + 1, none⟩ = some (.int .i64 f.kind) := by rw [hw2]; exact q1
    have q2' : w2.cell? ⟨g, o + 2, none⟩ = some (.int .i64 f.n) := by rw [hw2]; exact q2
    have hbk : w2.heap[b]? = w1.heap[b]? := by rw [hw2]; rfl
    have hgk : w2.heap[g]? = w1.heap[g]? := by rw [hw2]; rfl
    have hbl : b < w2.heap.size := lt_of (hbk.trans HD1.out)
    have hgl : g < w2.heap.size := lt_of (hgk.trans HG1.out)
    have hn1 : w2.heap.size ≠ b := by omega
    have hn2 : b ≠ w2.heap.size := by omega
    have HK := hid_of (And.intro hbk hgk)
    have HWW : Hid (∀ k, k ≠ b → w2.heap[k]? = w.heap[k]?) := fun k hk => by
      rw [hw2]
      show w1.heap[k]? = _
      rw [HW1.out]
      exact set_ne hk _
    have HSZ : Hid (w2.heap.size = w.heap.size) := by
      rw [hw2]
      show w1.heap.size = _
      rw [HW1.out, size_set]
    have HE2 : Hid (Ev DT base w w2) := by rw [hw2]; exact HE1.out.drewN _
    obtain ⟨na, nn, nc, hnpv⟩ : ∃ na nn nc, Value.slice na nn nc = sliced (some ⟨g, o, none⟩) 1 len cap 3 := ⟨_, _, _, rfl⟩
    have hsl : ∀ W, (Instr.slice 29 (.slice (some ⟨g, o, none⟩) len cap) (some (.int .i64 1)) none none).run Try.prog W = .ok (.slice na nn nc) W := by
      intro W
      rw [run_slice_l (P := Try.prog) W 29 (some ⟨g, o, none⟩) len cap und29 .i64 1 (by omega) (by omega), el29, Try.sizeOf58, hnpv]
      rfl
    have HNPV := hid_of hnpv
    clear hw2 c3 c4' c5 f3 f5 q0 q1 q2 hbk hgk hnpv HW1 c4 f4
    by_cases hk3 : f.kind = 3
    · have k1 : (f.kind == 3) = true := by rw [beq_iff_eq]; exact hk3
      have HK3 := hid_of hk3
      clear hk3
      go_wp2_with fail
      go_ret2
      have ef : d.fault = ({ d with steps := d.steps + 1, plan := r, down := true }, 0, 53) := by unfold Dk.fault; rw [hp]; dsimp only; rw [if_pos HS.out, if_pos HK3.out]
      rw [ef]
      have hb2 := HK.out.1.trans HD1.out
      have hb3 := set_at (i := 3) hb2 (.slice na nn nc)
      have hb5 := set_at (i := 5) hb3 (.bool true)
      have hk : ∀ k, k ≠ b → ((w2.setCell ⟨b, 3, none⟩ (.slice na nn nc)).setCell ⟨b, 5, none⟩ (.bool true)).heap[k]? = w.heap[k]? := fun k hk => ((set_ne hk _).trans (set_ne hk _)).trans (HWW.out k hk)
      have hsz : ((w2.setCell ⟨b, 3, none⟩ (.slice na nn nc)).setCell ⟨b, 5, none⟩ (.bool true)).heap.size = w.heap.size := by rw [size_set, size_set]; exact HSZ.out
      refine ⟨rfl, ⟨.slice na nn nc, DK.alloc ?_ _⟩, ((HE2.out.trans (Ev.set hb2 H.out.bb rfl _)).trans (Ev.set hb3 H.out.bb rfl _)).alloc _⟩
      refine H.out.own (y' := { y with pv := .slice na nn nc }) (fun k hk2 hne _ => hk k hne) (by rw [hsz]; exact Nat.le_refl _) rfl rfl rfl rfl hb5 rfl rfl rfl (row_later H.out.op fun q hq => hk q (fun e => ?_)) ?_ ?_
      · obtain ⟨q1, _, _⟩ := row_kd H.out.op hq
        rw [e, kd_cells H.out.disk] at q1
        cases q1
      · show PlanAt _ (.slice na nn nc) r
        have hq := HPR.out _ ((hk g hgb).trans (((HWW.out g hgb).symm.trans HK.out.2).trans HG1.out))
        rw [← HNPV.out] at hq
        exact hq
      · have ok := hok.out
        exact ⟨ok.names, ok.last, ok.opens, ok.nlen, ok.llen, fun q hq => ok.plan q (by show q ∈ d.plan; rw [hp]; exact List.mem_cons_of_mem _ hq)⟩
    · have k1 : (f.kind == 3) = false := by rw [beq_eq_false_iff_ne]; exact hk3
      have HK3 := hid_of hk3
      clear hk3
      go_wp2_with fail
      go_ret2
      have ef : d.fault = ({ d with steps := d.steps + 1, plan := r }, f.n, 52) := by unfold Dk.fault; rw [hp]; dsimp only; rw [if_pos HS.out, if_neg HK3.out]
      rw [ef]
      have hb2 := HK.out.1.trans HD1.out
      have hb3 := set_at (i := 3) hb2 (.slice na nn nc)
      have hk : ∀ k, k ≠ b → (w2.setCell ⟨b, 3, none⟩ (.slice na nn nc)).heap[k]? = w.heap[k]? := fun k hk => (set_ne hk _).trans (HWW.out k hk)
      have hsz : (w2.setCell ⟨b, 3, none⟩ (.slice na nn nc)).heap.size = w.heap.size := by rw [size_set]; exact HSZ.out
      refine ⟨rfl, ⟨.slice na nn nc, DK.alloc ?_ _⟩, (HE2.out.trans (Ev.set hb2 H.out.bb rfl _)).alloc _⟩
      refine H.out.own (y' := { y with pv := .slice na nn nc }) (fun k hk2 hne _ => hk k hne) (by rw [hsz]; exact Nat.le_refl _) rfl rfl rfl rfl hb3 rfl rfl rfl (row_later H.out.op fun q hq => hk q (fun e => ?_)) ?_ ?_
      · obtain ⟨q1, _, _⟩ := row_kd H.out.op hq
        rw [e, kd_cells H.out.disk] at q1
        cases q1
      · show PlanAt _ (.slice na nn nc) r
        have hq := HPR.out _ ((hk g hgb).trans (((HWW.out g hgb).symm.trans HK.out.2).trans HG1.out))
        rw [← HNPV.out] at hq
        exact hq
      · have ok := hok.out
        exact ⟨ok.names, ok.last, ok.opens, ok.nlen, ok.llen, fun q hq => ok.plan q (by show q ∈ d.plan; rw [hp]; exact List.mem_cons_of_mem _ hq)⟩
  · have s1 : (f.step == (d.steps : Int) + 1) = false := by rw [beq_eq_false_iff_ne]; exact hs
    have s2 : (f.step != (d.steps : Int) + 1) = true := by unfold bne; rw [s1]; rfl
    have ef : d.fault = ({ d with steps := d.steps + 1 }, 0, 0) := by unfold Dk.fault; rw [hp]; dsimp only; rw [if_neg hs]
    rw [ef]
    clear hs ef
    unfold ptr
    go_enter Try.func50, Try.ntmps50
    go_wp2_with fail
    rw [← HW1.out]
    go_quiet (fail)
    go_wp2_with fail
    go_ret2
    refine ⟨rfl, ⟨y.pv, ?_⟩, HE1.out.drewN _⟩
    refine DK.drewN ?_ _
    have hk : ∀ k, k ≠ b → w1.heap[k]? = w.heap[k]? := fun k hk => by rw [HW1.out]; exact set_ne hk _
    have hsz : w1.heap.size = w.heap.size := by rw [HW1.out, size_set]
    refine H.out.own (fun k hk2 hne _ => hk k hne) (by rw [hsz]; exact Nat.le_refl _) rfl rfl rfl rfl HD1.out rfl rfl rfl (row_later H.out.op fun q hq => hk q (fun e => ?_)) ?_ hok.out
    · obtain ⟨q1, _, _⟩ := row_kd H.out.op hq
      rw [e, kd_cells H.out.disk] at q1
      cases q1
    · refine plan_later H.out.pl (fun k _ e => hk k (fun e2 => ?_))
      rw [e2, kd_cells H.out.disk] at e
      cases e
theorem step_any (base b : Nat) (d : Dk) (hst : d.steps < 1099511627776) : StepC base b d := by
  cases hp : d.plan with
  | nil => exact step_nil base b d hp hst
  | cons f r => exact step_plan base b d f r hp hst
end Go.Proofs.Ytilbffbmpgebmaa.Step
