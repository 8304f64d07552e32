/- The places of a row as a thing; reach. -/
import Derived.Test.YtiaggddpoddbcaaEdge2
import Derived.Deep.RegionLaw
namespace Go.Proofs.Ytiaggddpoddbcaa.Edge
open Go.RowKit Go.Maps
open Go.Proofs.Ytiaggddpoddbcaa.HeapMath
open Go.Proofs.Ytiaggddpoddbcaa.Heap
open Go.Proofs.Ytiaggddpoddbcaa.Turn
open Go.Proofs.Ytiaggddpoddbcaa.Before
open Go.Proofs.Ytiaggddpoddbcaa.RowB
open Go.Proofs.Ytiaggddpoddbcaa.PushR (step_eq)
set_option linter.unusedVariables false
set_option linter.unusedSimpArgs false
set_option maxHeartbeats 4000000 in
set_option maxRecDepth 100000 in
theorem push_raw (e n c n' c' : Nat) (a a' : Option Addr) (w W3 : World) (P : Int) (hn : n < 1099511627776) (hel : e < w.heap.size)
    (c1 : w.cell? ⟨e, 1, none⟩ = some (.slice a n c))
    (H2 : Hid ((Builtin.append_ #[37, 37] 37 #[.slice a n c, .slice (some ⟨w.heap.size, 0, none⟩) 1 1]).run Try.prog (w.drew.alloc (.cells #[.int .i64 P] 3)) = .ok (.slice a' n' c') W3 ∧ W3.cell? ⟨e, 1, none⟩ = some (.slice a n c) ∧ W3.frozen? ⟨e, 1, none⟩ = false)) :
    Calls Try.prog 91 #[.pointer (some ⟨e, 0, none⟩), .iface 3 (.int .i64 P)] w fun r w' => r = .returned (.tuple #[]) ∧ w' = W3.setCell ⟨e, 1, none⟩ (.slice a' n' c') := by
  have q3 := isInt (.int .i64 P)
  obtain ⟨hr, c3, f3⟩ := H2.out
  have c2 : (w.alloc (.cells #[.int .i64 P] 3)).cell? ⟨e, 1, none⟩ = some (.slice a n c) := (World.cell?_of_block (a := ⟨e, 1, none⟩) (Below.heap_alloc _ _ e hel)).trans c1
  go_enter Try.func91, Try.ntmps91
  go_wp2_with fail
  go_region_law (first | (refine step_eq rfl (.tmp 8) (.tmp 11) 37 37 rfl (.slice a n c) (.slice (some ⟨w.heap.size, 0, none⟩) 1 1) (.slice a' n' c') _ W3 (by first | (simp [Act.eval]; done) | simp [Act.eval, Act.put]) (by first | (simp [Act.eval]; done) | simp [Act.eval, Act.put]) hr ?_))
  all_goals
    go_wp2_with fail
    go_end0
    exact ⟨rfl, rfl⟩
theorem info3 : (Try.prog.info? 3).map (fun i => (i.zero, i.size, i.bytes)) = some (some (.int .i64 0), 1, 8) := by kernel_rfl
theorem parts3 : ∃ i, Try.prog.info? 3 = some i ∧ i.zero = some (.int .i64 0) ∧ i.size = 1 ∧ i.bytes = 8 := by
  have h := info3
  cases e : Try.prog.info? 3 with
  | none => rw [e] at h; cases h
  | some i =>
    rw [e] at h
    simp at h
    exact ⟨i, rfl, h.1, h.2.1, h.2.2⟩
theorem push_call {B e g c : Nat} {l : Es} {w : World} {ps : List Nat} {p : Nat} (h : EG B e g c l w ps) (hp : p < l.length) (hs : ps.length + 1 < 1099511627776) :
    Calls Try.prog 91 #[ptr e, .iface 3 (iv p)] w fun r w' => r = .returned (.tuple #[]) ∧ EG B e g c l w' (ps ++ [p]) ∧ Tr B w w' := by
  obtain ⟨pv, h1, h2⟩ := h.box
  obtain ⟨i, hi, hz0, hz1, hz2⟩ := parts3
  have b1 : Below w.heap.size w (w.drew.alloc (.cells #[iv p] 3)) := (Below.refl _ w).drew.alloc (Nat.le_refl _) _
  have h2' := row_b (B' := 0) h2 b1
  have hnew : (w.drew.alloc (.cells #[iv p] 3)).heap[w.heap.size]? = some (.cells #[iv p] 3 (0, 0)) := heap_alloc_new w.drew _
  obtain ⟨v', W3, hr, ho, hg, _⟩ := run_append_own_wide (P := Try.prog) (w.drew.alloc (.cells #[iv p] 3)) B 37 37 3 i _ 1 8 Try.underlying37 hi hz0 hz1 hz2 rfl (by decide) pv ps.length (ps.map iv) h2' ⟨w.heap.size, 0, none⟩ 1 1 [iv p] rfl (fun j u hj => by
      match j, hj with
      | 0, hj =>
        have : (⟨w.heap.size, 0, none⟩ : Addr).add 0 = ⟨w.heap.size, 0, none⟩ := by simp [Addr.add]
        rw [this, Lib.cell_of_heap hnew]
        exact hj) (by intro u hu; simp at hu; subst hu; rfl) (by unfold maxLen; omega) (by omega) (Nat.le_trans h.bw b1.size)
  have hl : (ps ++ [p]).length = ps.length + 1 := by simp
  obtain ⟨a, k, rfl⟩ := pshape h2
  obtain ⟨a', k', rfl⟩ : ∃ a' k', v' = .slice a' (ps.length + 1) k' := by
    rcases ho.2 with ⟨_, q⟩ | ⟨g, cap, cur, rfl, _⟩
    · omega
    · exact ⟨_, _, rfl⟩
  have hne : ∀ q, (Value.slice a ps.length k).ownBlock = some q → q ≠ e ∧ B ≤ q := fun q hq => by
    rcases h2.2 with ⟨e', _⟩ | ⟨g', cap, cur, e', hb, hg', _⟩
    · rw [e'] at hq; cases hq
    · rw [e'] at hq
      injection hq with hq
      have : g' = q := hq
      subst this
      refine ⟨?_, hb⟩
      rintro rfl
      rw [hg'] at h1
      injection h1 with h1
      injection h1 with _ h1
      cases h1
  have he : e < (w.drew.alloc (.cells #[iv p] 3)).heap.size := Nat.lt_of_lt_of_le (lt_of h1) b1.size
  have x1 : W3.heap[e]? = some (.cells #[.slice (some ⟨g, 0, none⟩) l.length c, .slice a ps.length k] 116 (0, 0)) := (hg.block e he (fun q => (hne e q.symm).1 rfl)).trans ((b1.block _ (lt_of h1)).trans h1)
  have bB : Below B w W3 := (b1.mono h.bw).trans ⟨hg.os, hg.tape, hg.output, hg.size, fun j hj => hg.block j (by have := h.bw; have := b1.size; omega) (fun q => by have := (hne j q.symm).2; omega)⟩
  have hb2 := set_below (w := W3) (i := 1) h.be (.slice a' (ps.length + 1) k')
  have tB : Tr B w W3 := (Tr.of_below b1).trans (Tr.grown hg fun j hj => by
    refine ⟨(hne j hj).2, ?_⟩
    rcases h2'.2 with ⟨e', _⟩ | ⟨g', cap, cur, e', hb, hg', _⟩
    · rw [e'] at hj; cases hj
    · rw [e'] at hj
      injection hj with hj
      have : g' = j := hj
      subst this
      exact ⟨cur, (0, 0), hg'⟩)
  refine (push_raw e ps.length k (ps.length + 1) k' a a' w W3 p (by omega) (lt_of h1) (Lib.cell_of_heap h1 1) (hid_of ⟨hr, Lib.cell_of_heap x1 1, Lib.frozen_of_heap x1 1⟩)).mono ?_
  rintro r w' ⟨rfl, rfl⟩
  refine ⟨rfl, ⟨⟨_, set_at x1 _, ?_⟩, h.be, h.hg, Nat.le_trans (Nat.le_trans h.bw bB.size) hb2.size, h.ent.keep (((bB.trans hb2)).block _ h.hg), fun q hq => ?_, by rw [hl]; exact hs, h.wide⟩, tB.trans (Tr.set x1 (.inl rfl) h.be _)⟩
  · rw [hl, List.map_append]
    refine ⟨ho.1, ho.2.imp id ?_⟩
    rintro ⟨g', cap, cur, e', hb, hg', r⟩
    refine ⟨g', cap, cur, e', hb, (set_ne (fun q => ?_) _).trans hg', r⟩
    subst q
    rw [hg'] at x1
    injection x1 with x1
    injection x1 with _ x1
    cases x1
  · rcases List.mem_append.1 hq with q | q
    · exact h.ins _ q
    · simp at q; rw [q]; exact hp
theorem swap_call {B e g c : Nat} {l : Es} {w : World} {ps : List Nat} (h : EG B e g c l w ps) (i j : Nat) (hi : i < ps.length) (hj : j < ps.length) :
    Calls Try.prog 92 #[ptr e, .int .i64 (i : Int), .int .i64 (j : Int)] w fun r w' => r = .returned (.tuple #[]) ∧ EG B e g c l w' (swp ps i j) ∧ Tr B w w' := by
  obtain ⟨pv, h1, h2⟩ := h.box
  obtain ⟨q, k, rfl, hBq, hk, ⟨cur, hq⟩, hc, hz⟩ := prow h2 (by omega)
  have hne : e ≠ q := by
    rintro rfl
    rw [hq] at h1
    injection h1 with h1
    injection h1 with h1 h1'
    cases h1'
  have c1 : w.cell? ⟨e, 1, none⟩ = some (.slice (some ⟨q, 0, none⟩) ps.length k) := Lib.cell_of_heap h1 1
  have x0 := hc i hi
  have x1 := hc j hj
  rw [← pl_in hi] at x0
  rw [← pl_in hj] at x1
  have hs := h.small
  have s1 := set_row h2 i hi (iv (pl ps j))
  have s2 := set_row s1 j hj (iv (pl ps i))
  have bb : Below B w ((w.setCell ⟨q, i, none⟩ (iv (pl ps j))).setCell ⟨q, j, none⟩ (iv (pl ps i))) := (set_below (w := w) (i := i) hBq _).trans (set_below (i := j) hBq _)
  have tt : Tr B w ((w.setCell ⟨q, i, none⟩ (iv (pl ps j))).setCell ⟨q, j, none⟩ (iv (pl ps i))) := (Tr.set hq (.inr rfl) hBq _).trans (Tr.set (set_at hq _) (.inr rfl) hBq _)
  have fin : EG B e g c l ((w.setCell ⟨q, i, none⟩ (iv (pl ps j))).setCell ⟨q, j, none⟩ (iv (pl ps i))).drew (swp ps i j) := by
    have hE : EG B e g c l ((w.setCell ⟨q, i, none⟩ (iv (pl ps j))).setCell ⟨q, j, none⟩ (iv (pl ps i))) (swp ps i j) := by
      refine ⟨⟨_, (set_ne hne _).trans ((set_ne hne _).trans h1), ?_⟩, h.be, h.hg, Nat.le_trans h.bw bb.size, h.ent.keep (bb.block _ h.hg), fun p hp => h.ins p ((swp_perm hi hj).mem_iff.1 hp), by rw [swp_len]; exact hs, h.wide⟩
      rw [swp_len, swp_map ps i j hi hj]
      exact s2
    exact hE.below (Below.refl _ _).drew
  by_cases hij : i = j
  · subst hij
    refine (swap_raw1 e q ps.length k i w _ hi hs c1 x0 (hz i) hne (World.cell?_setCell_same' _ _ _ (by rw [x0]; rfl))).mono ?_
    rintro r w' ⟨rfl, rfl⟩
    exact ⟨rfl, fin, tt.drew⟩
  · refine (swap_raw e q ps.length k i j w _ _ hi hj hs c1 x0 x1 (hz i) (hz j) hij hne).mono ?_
    rintro r w' ⟨rfl, rfl⟩
    exact ⟨rfl, fin, tt.drew⟩
def okP (l : Es) (p : Nat) (ps : List Nat) : Prop := p < l.length ∧ ps.length + 1 < 1099511627776
theorem thingE (B e g c : Nat) (l : Es) : Thing 56 89 90 91 92 (ltP l) (ptr e) (fun p => .iface 3 (iv p)) (okP l) (EG B e g c l) (Tr B) where
  moves := {
    refl := fun w => Tr.refl _ _
    trans := fun _ _ _ h k => h.trans k
    less := fun w ps i j h hi hj => (less_call h i j hi hj).mono (by
      rintro r w' ⟨rfl, hb⟩
      exact ⟨rfl, h.below hb, Tr.of_below hb⟩)
    swap := fun w ps i j h hi hj => (swap_call h i j hi hj).mono (by
      rintro r w' ⟨rfl, hr, hv⟩
      exact ⟨rfl, hr, hv⟩) }
  len := fun w ps h => (len_call h).mono (by
    rintro r w' ⟨rfl, rfl⟩
    exact ⟨rfl, h, Tr.refl _ _⟩)
  push := fun w ps p h hp => (push_call h hp.1 hp.2).mono (by
    rintro r w' ⟨rfl, hr, hv⟩
    exact ⟨rfl, hr, hv⟩)
  pop := fun w ps h h0 => (pop_call h h0).mono (by
    rintro r w' ⟨rfl, hr, hv⟩
    exact ⟨rfl, hr, hv⟩)
/- reach: a place is added, if the row goes so far -/
set_option maxRecDepth 100000 in
theorem reach_call {B e g c : Nat} {l : Es} {w : World} {ps : List Nat} (h : EG B e g c l w ps) (hh : Hp (ltP l) ps ps.length) (p : Nat) (hs : ps.length + 1 < 1099511627776) (hp4 : p ≤ 4398046511104) :
    Calls Try.prog 55 #[ptr e, .int .i64 (p : Int)] w fun r w' => r = .returned (.tuple #[]) ∧ (∃ ps', EG B e g c l w' ps' ∧ Hp (ltP l) ps' ps'.length ∧ ps'.Perm (ps ++ (if p < l.length then [p] else []))) ∧ Tr B w w' := by
  obtain ⟨pv, h1, h2⟩ := h.box
  have c0 : w.cell? ⟨e, 0, none⟩ = some (.slice (some ⟨g, 0, none⟩) l.length c) := Lib.cell_of_heap h1 0
  have HE := hid_of h
  have HH := hid_of hh
  clear h1 h2 hh
  by_cases hp : p < l.length
  · have H := hid_of (pushEdgeS (sto_p l) (ptr e) (thingE B e g c l) w ps p h ⟨hp, hs⟩ (by omega) HH.out)
    have HP := hid_of hp
    have d1 : (p : Int) < (l.length : Int) := by omega
    clear h hs hp
    go_enter Try.func55, Try.ntmps55
    go_wp2_with fail
    refine H.out.mono ?_
    rintro r w1 ⟨rfl, ⟨ps', r1, h1, p1⟩, f1⟩
    have HR := hid_of (And.intro r1 (And.intro h1 (And.intro p1 f1)))
    clear r1 h1 p1 f1
    go_wp2_with fail
    go_end0
    exact ⟨rfl, ⟨ps', HR.out.1, HR.out.2.1, by first | exact HR.out.2.2.1 | (rw [if_pos HP.out]; exact HR.out.2.2.1)⟩, HR.out.2.2.2⟩
  · have d1 : ¬ (p : Int) < (l.length : Int) := by omega
    have HP := hid_of hp
    clear h hs hp
    go_enter Try.func55, Try.ntmps55
    go_wp2_with fail
    go_end0
    exact ⟨rfl, ⟨ps, HE.out, HH.out, by first | exact List.Perm.refl _ | (rw [if_neg HP.out, List.append_nil])⟩, Tr.refl _ _⟩
end Go.Proofs.Ytiaggddpoddbcaa.Edge
