/- The calls of an index over texts: Len, Due, Drop, Set, Next. -/
import Derived.Test.YtiaggddpoddbcaaThingS
namespace Go.Proofs.Ytiaggddpoddbcaa.IndexS
open Go.RowKit Go.Maps
open Go.Proofs.Ytiaggddpoddbcaa.HeapMath
open Go.Proofs.Ytiaggddpoddbcaa.Heap
open Go.Proofs.Ytiaggddpoddbcaa.Turn
open Go.Proofs.Ytiaggddpoddbcaa.Before
open Go.Proofs.Ytiaggddpoddbcaa.Spots
open Go.Proofs.Ytiaggddpoddbcaa.RowB
open Go.Proofs.Ytiaggddpoddbcaa.Swap
open Go.Proofs.Ytiaggddpoddbcaa.Push
open Go.Proofs.Ytiaggddpoddbcaa.ThingS
set_option linter.unusedVariables false
set_option linter.unusedSimpArgs false
theorem zero3 (w : World) : (zeroValue 3).run Try.prog w = .ok (.int .i64 0) w := by kernel_rfl
/-- an index: a row in the order of a heap, whose entries are those of s -/
def IX (base b : Nat) (w : World) (s : Es) : Prop := ∃ l, RT base b w l ∧ Hp ltS l l.length ∧ l.Perm s
theorem find_run {base b : Nat} {l : Es} {w : World} (h : RS base b w l) (k : Bs) (hk : k.length ≤ 281474976710656) :
    ∃ mv p q, w.cell? ⟨b, 1, none⟩ = some mv ∧ (Instr.lookup 69 mv (.string (mk k)) true).run Try.prog w = .ok (.tuple #[.int .i64 ((p : Nat) : Int), .bool q]) w ∧ ((q = true ∧ p < l.length ∧ (pl l p).1 = k) ∨ (q = false ∧ ∀ i, i < l.length → (pl l i).1 ≠ k)) := by
  obtain ⟨ev, mv, h⟩ := h
  rcases h.map with ⟨rfl, rfl⟩ | ⟨bm, D, rfl, hbm, own, sp⟩
  · have c1 : w.cell? ⟨b, 1, none⟩ = some (.map none) := (Lib.cell_of_heap h.idx 1).trans rfl
    have hl := look_nil (P := Try.prog) (w := w) true law9 Try.underlying69 (zero3 w) (key9 k hk)
    exact ⟨.map none, 0, false, c1, hl, .inr ⟨rfl, fun i hi => absurd hi (by simp)⟩⟩
  · obtain ⟨v, ps, hrun, hv⟩ := own.look_ok law9 Try.underlying69 (zero3 w) (zd := num 0) (zp := []) (val3 0 (by omega)) (key9 k hk)
    by_cases hex : ∃ i, i < l.length ∧ (pl l i).1 = k
    · obtain ⟨i, hi, rfl⟩ := hex
      have s1 := sp.some i hi
      rw [s1.1] at hrun
      rw [s1.2] at hv
      obtain ⟨c, rfl, hc, _⟩ := plainElem_int_inv Try.underlying3 hv
      have ec : c = (i : Int) := by simp at hc; exact hc.1.symm
      rw [ec] at hrun
      exact ⟨_, i, true, Lib.cell_of_heap h.idx 1, hrun, .inl ⟨rfl, hi, rfl⟩⟩
    · have s0 : ∀ i, i < l.length → (pl l i).1 ≠ k := fun i hi e => hex ⟨i, hi, e⟩
      rw [sp.none k s0] at hrun
      have hz := sp.none k s0
      rw [atKey_of_not_has hz] at hv
      obtain ⟨c, rfl, hc, _⟩ := plainElem_int_inv Try.underlying3 hv
      have ec : c = ((0 : Nat) : Int) := by simp at hc; exact hc.1.symm
      rw [ec] at hrun
      exact ⟨_, 0, false, Lib.cell_of_heap h.idx 1, hrun, .inr ⟨rfl, s0⟩⟩
set_option maxRecDepth 100000 in
theorem ilen_call {base b : Nat} {l : Es} {w : World} (h : RS base b w l) : Calls Try.prog 29 #[ptr b] w fun e w' => e = .returned (.int .i64 (l.length : Int)) ∧ w' = w := by
  have H := hid_of (len_call h)
  clear h
  go_enter Try.func29, Try.ntmps29
  go_wp2_with fail
  refine H.out.mono ?_
  rintro e w1 ⟨rfl, rfl⟩
  go_wp2_with fail
  go_ret
  exact ⟨rfl, rfl⟩
set_option maxRecDepth 100000 in
theorem drop_call {base b : Nat} {s : Es} {w : World} (h : IX base b w s) (k : Bs) (hk : k.length ≤ 281474976710656) : Calls Try.prog 28 #[ptr b, .string (mk k)] w fun e w' => ∃ q, e = .returned (.bool q) ∧ ((q = true ∧ ∃ x s', x.1 = k ∧ (s' ++ [x]).Perm s ∧ IX base b w' s') ∨ (q = false ∧ (∀ x ∈ s, x.1 ≠ k) ∧ IX base b w' s)) ∧ Ev DT base w w' := by
  obtain ⟨l, hr, hh, hp⟩ := h
  obtain ⟨mv, p, q, c1, hl, hq⟩ := find_run hr.1 k hk
  rcases hq with ⟨rfl, hpl, hpk⟩ | ⟨rfl, hno⟩
  · have H := hid_of (removeRowS (ent_sto keysS) (ptr b) (thingS base b) w l p hr hpl hr.2 hh)
    have HP := hid_of (And.intro hpk hp)
    clear hr hh hp hpl hpk
    go_enter Try.func28, Try.ntmps28
    go_wp2_with fail
    refine H.out.mono ?_
    rintro e w1 ⟨rfl, ⟨l', r1, h1, p1⟩, f1⟩
    have HE := hid_of (And.intro r1 (And.intro h1 (And.intro p1 f1)))
    clear r1 h1 p1 f1
    go_wp2_with fail
    go_ret
    exact ⟨true, rfl, .inl ⟨rfl, _, l', HP.out.1, HE.out.2.2.1.trans HP.out.2, ⟨l', HE.out.1, HE.out.2.1, List.Perm.refl _⟩⟩, HE.out.2.2.2⟩
  · have H := hid_of (And.intro hr (And.intro hh hp))
    have HN := hid_of hno
    clear hr hh hp hno
    go_enter Try.func28, Try.ntmps28
    go_wp2_with fail
    go_ret
    refine ⟨false, rfl, .inr ⟨rfl, fun x hx e => ?_, ⟨l, H.out⟩⟩, Ev.refl _ _ _⟩
    obtain ⟨i, hi, e2⟩ := List.getElem_of_mem (H.out.2.2.mem_iff.2 hx)
    exact HN.out i hi (by rw [pl_in hi, e2]; exact e)
set_option maxRecDepth 100000 in
theorem due_call {base b : Nat} {s : Es} {w : World} (h : IX base b w s) (k : Bs) (hk : k.length ≤ 281474976710656) : Calls Try.prog 26 #[ptr b, .string (mk k)] w fun e w' => ∃ (t : Int) (q : Bool), e = .returned (.tuple #[.int .i64 t, .bool q]) ∧ ((q = true ∧ (k, t) ∈ s) ∨ (q = false ∧ t = 0 ∧ ∀ x ∈ s, x.1 ≠ k)) ∧ w' = w := by
  obtain ⟨l, hr, hh, hp⟩ := h
  obtain ⟨mv, p, q, c1, hl, hq⟩ := find_run hr.1 k hk
  rcases hq with ⟨rfl, hpl, hpk⟩ | ⟨rfl, hno⟩
  · obtain ⟨ev, mv', h'⟩ := hr.1
    obtain ⟨g, c, rfl, _, hc⟩ := row_block h'.ent (by omega)
    have c0 : w.cell? ⟨b, 0, none⟩ = some (.slice (some ⟨g, 0, none⟩) l.length c) := (Lib.cell_of_heap h'.idx 0).trans rfl
    have k1 := (hc p hpl).2
    rw [← pl_in hpl] at k1
    have HP := hid_of (show (k, (pl l p).2) ∈ s from hp.mem_iff.1 (by rw [← hpk, pl_in hpl]; exact List.getElem_mem hpl))
    have hb := hr.2
    generalize (pl l p).2 = t at *
    clear hr hh hp hpk h' hc
    go_enter Try.func26, Try.ntmps26
    go_wp2_with fail
    go_ret2
    exact ⟨t, true, rfl, .inl ⟨rfl, HP.out⟩, rfl⟩
  · have H := hid_of hp
    have HN := hid_of hno
    clear hr hh hp hno
    go_enter Try.func26, Try.ntmps26
    go_wp2_with fail
    go_ret2
    refine ⟨0, false, rfl, .inr ⟨rfl, rfl, fun x hx e => ?_⟩, rfl⟩
    obtain ⟨i, hi, e2⟩ := List.getElem_of_mem (H.out.mem_iff.2 hx)
    exact HN.out i hi (by rw [pl_in hi, e2]; exact e)
end Go.Proofs.Ytiaggddpoddbcaa.IndexS
