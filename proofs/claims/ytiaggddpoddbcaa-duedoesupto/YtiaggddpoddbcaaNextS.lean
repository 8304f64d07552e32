/- Next of an index over texts. -/
import Derived.Test.YtiaggddpoddbcaaIndexS
namespace Go.Proofs.Ytiaggddpoddbcaa.NextS
open Go.RowKit Go.Maps
open Go.Proofs.Ytiaggddpoddbcaa.HeapMath
open Go.Proofs.Ytiaggddpoddbcaa.Heap
open Go.Proofs.Ytiaggddpoddbcaa.Turn
open Go.Proofs.Ytiaggddpoddbcaa.Before
open Go.Proofs.Ytiaggddpoddbcaa.RowB
open Go.Proofs.Ytiaggddpoddbcaa.Swap
open Go.Proofs.Ytiaggddpoddbcaa.IndexS
set_option linter.unusedVariables false
set_option linter.unusedSimpArgs false
theorem first_least {α : Type} [Inhabited α] {lt : α → α → Prop} (o : STO lt) {l : List α} (h : Hp lt l l.length) : ∀ n k, k ≤ n → k < l.length → ¬ lt (pl l k) (pl l 0) := by
  intro n
  induction n with
  | zero => intro k hk _; rw [show k = 0 by omega]; exact o.irr _
  | succ n ih =>
    intro k hk hkl
    by_cases h0 : k = 0
    · rw [h0]; exact o.irr _
    · have hp := par_lt (i := k) (by omega)
      exact o.le_trans (ih (par k) (by omega) (by omega)) (h k (by omega) hkl)
set_option maxHeartbeats 1000000 in
set_option maxRecDepth 100000 in
theorem next_call {base b : Nat} {s : Es} {w : World} (h : IX base b w s) : Calls Try.prog 24 #[ptr b] w fun e w' => ((∃ x ∈ s, (∀ y ∈ s, ¬ ltS y x) ∧ e = .returned (.tuple #[.string (mk x.1), .int .i64 x.2, .bool true])) ∨ (s = [] ∧ e = .returned (.tuple #[.string (mk []), .int .i64 0, .bool false]))) ∧ Below w.heap.size w w' := by
  obtain ⟨l, hr, hh, hp⟩ := h
  have HL := hid_of (ilen_call hr.1)
  by_cases h0 : l.length = 0
  · have hl : l = [] := List.length_eq_zero_iff.1 h0
    have HS := hid_of (show s = [] by rw [hl] at hp; exact hp.symm.eq_nil)
    rw [h0] at HL
    clear hr hh hp
    go_enter Try.func24, Try.ntmps24
    go_wp2_with fail
    refine HL.out.mono ?_
    rintro e w1 ⟨rfl, rfl⟩
    go_wp2_with fail
    go_ret3
    exact ⟨.inr ⟨HS.out, rfl⟩, (Below.refl _ _).alloc (Nat.le_refl _) _⟩
  · have hpos : 0 < l.length := by omega
    obtain ⟨ev, mv', h'⟩ := hr.1
    obtain ⟨g, c, rfl, _, hc⟩ := row_block h'.ent hpos
    have c0 : w.cell? ⟨b, 0, none⟩ = some (.slice (some ⟨g, 0, none⟩) l.length c) := (Lib.cell_of_heap h'.idx 0).trans rfl
    obtain ⟨k0, k1⟩ := hc 0 hpos
    rw [← pl_in hpos] at k0 k1
    rw [show 0 * 2 = 0 from rfl] at k0
    rw [show 0 * 2 + 1 = 1 from rfl] at k1
    have HX := hid_of (show pl l 0 ∈ s ∧ ∀ y ∈ s, ¬ ltS y (pl l 0) from ⟨hp.mem_iff.1 (by rw [pl_in hpos]; exact List.getElem_mem hpos), fun y hy => by
      obtain ⟨i, hi, e2⟩ := List.getElem_of_mem (hp.mem_iff.2 hy)
      rw [← e2, ← pl_in hi]
      exact first_least (ent_sto keysS) hh i i (Nat.le_refl _) hi⟩)
    have hb := hr.2
    obtain ⟨x, hx⟩ : ∃ x, x = pl l 0 := ⟨_, rfl⟩
    rw [← hx] at k0 k1 HX
    obtain ⟨xk, xt⟩ := x
    dsimp only at k0 k1
    have n0 : ¬ (l.length : Int) = 0 := by omega
    have n1 : ((l.length : Int) == 0) = false := by rw [beq_eq_false_iff_ne]; exact n0
    have hbl := lt_of h'.idx
    clear hr hh hp h' hc hx
    go_enter Try.func24, Try.ntmps24
    go_wp2_with fail
    refine HL.out.mono ?_
    rintro e w1 ⟨rfl, rfl⟩
    go_wp2_with fail
    go_quiet (fail)
    go_wp2_with fail
    go_ret3
    exact ⟨.inl ⟨(xk, xt), HX.out.1, HX.out.2, rfl⟩, by
      have q := (Below.refl w1.heap.size w1).alloc (Nat.le_refl _) (.cells #[.string (mk xk), .int .i64 xt] 96)
      exact ⟨q.os, q.tape, q.output, q.size, q.block⟩⟩
end Go.Proofs.Ytiaggddpoddbcaa.NextS
