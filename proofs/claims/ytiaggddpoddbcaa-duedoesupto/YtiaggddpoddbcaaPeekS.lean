/- Peek of an index over texts, whatever now and most are. -/
import Derived.Test.YtiaggddpoddbcaaPeek
import Derived.Test.YtiaggddpoddbcaaIndexS
namespace Go.Proofs.Ytiaggddpoddbcaa.PeekS
open Go.RowKit Go.Maps Go.Shelf
open Go.Proofs.Ytiaggddpoddbcaa.HeapMath
open Go.Proofs.Ytiaggddpoddbcaa.Heap
open Go.Proofs.Ytiaggddpoddbcaa.Turn
open Go.Proofs.Ytiaggddpoddbcaa.Before
open Go.Proofs.Ytiaggddpoddbcaa.RowB
open Go.Proofs.Ytiaggddpoddbcaa.Edge
open Go.Proofs.Ytiaggddpoddbcaa.IndexS
open Go.Proofs.Ytiaggddpoddbcaa.ThingS
open Go.Proofs.Ytiaggddpoddbcaa.Peek
set_option linter.unusedVariables false
set_option linter.unusedSimpArgs false
theorem sorted_nodup {l S : Es} (h : Sorted ltS l S) : l.Nodup := by
  refine (h.perm.nodup_iff).1 (h.inc.imp ?_)
  intro a b hab e
  rw [e] at hab
  exact (ent_sto keysS).irr _ hab
theorem below3 (w : World) (o1 o2 o3 : Obj) : Below w.heap.size w (((w.alloc o1).alloc o2).alloc o3) := (((Below.refl _ w).alloc (Nat.le_refl _) _).alloc (by simp) _).alloc (by simp; omega) _
set_option maxHeartbeats 1000000 in
set_option maxRecDepth 100000 in
theorem peek_none {b : Nat} {S : Es} {w : World} (now most : Int) (hmost : most ≤ 0) : Calls Try.prog 20 #[ptr b, .int .i64 now, .int .i64 most] w fun e w' => ∃ v, e = .returned v ∧ w'.ownsRow w.heap.size 9 1 v (got S now most).length ((keysOf (got S now most)).map sv) ∧ Below w.heap.size w w' := by
  have HG : Hid (got S now most = []) := hid_of (by unfold got; rw [show most.toNat = 0 by omega, List.take_zero])
  unfold ptr
  go_enter Try.func20, Try.ntmps20
  go_wp2_with fail
  go_ret
  refine ⟨_, rfl, ?_, below3 w _ _ _⟩
  rw [HG.out]
  exact World.ownsRow_nil _ _ _ _
set_option maxHeartbeats 1000000 in
set_option maxRecDepth 100000 in
theorem peek_nobody {w : World} (now most : Int) : Calls Try.prog 20 #[.pointer none, .int .i64 now, .int .i64 most] w fun e w' => e = .returned (.slice none 0 0) ∧ Below w.heap.size w w' := by
  go_enter Try.func20, Try.ntmps20
  go_wp2_with fail
  go_ret
  exact ⟨rfl, below3 w _ _ _⟩
theorem peek_call {base b : Nat} {s S : Es} {w : World} (h : IX base b w s) (hS : Sorted ltS s S) (hlen : s.length + 1 < 1099511627776) (now most : Int) :
    Calls Try.prog 20 #[ptr b, .int .i64 now, .int .i64 most] w fun e w' => ∃ v, e = .returned v ∧ w'.ownsRow w.heap.size 9 1 v (got S now most).length ((keysOf (got S now most)).map sv) ∧ Below w.heap.size w w' := by
  rcases Int.lt_or_le 0 most with hm | hm
  · obtain ⟨l, hr, hh, hp⟩ := h
    have hS' : Sorted ltS l S := ⟨hS.perm.trans hp.symm, hS.inc⟩
    obtain ⟨ev, mv, h'⟩ := hr.1
    have hl := hp.length_eq
    rcases Nat.eq_zero_or_pos l.length with h0 | h0
    · obtain ⟨a, c, rfl⟩ := row_shape h'.ent
      have e1 : l = [] := List.length_eq_zero_iff.1 h0
      have e2 : S = [] := by have := hS'.perm; rw [e1] at this; exact this.eq_nil
      rw [e2]
      rw [h0] at h'
      exact peek_zero now most hm (lt_of h'.idx) (Lib.cell_of_heap h'.idx 0)
    · obtain ⟨g, c, rfl, _, hc⟩ := row_block h'.ent h0
      have c0 : w.cell? ⟨b, 0, none⟩ = some (.slice (some ⟨g, 0, none⟩) l.length c) := Lib.cell_of_heap h'.idx 0
      exact peek_pos now most hm h0 (by omega) (sorted_nodup hS') hh hS' (lt_of h'.idx) (block_lt_of_cell (hc 0 h0).1) c0 hc
  · exact peek_none now most hm
end Go.Proofs.Ytiaggddpoddbcaa.PeekS
