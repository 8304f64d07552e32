/- Set of an index over texts. -/
import Derived.Test.YtiaggddpoddbcaaIndexS
namespace Go.Proofs.Ytiaggddpoddbcaa.SetS
open Go.RowKit Go.Maps
open Go.Proofs.Ytiaggddpoddbcaa.HeapMath
open Go.Proofs.Ytiaggddpoddbcaa.Heap
open Go.Proofs.Ytiaggddpoddbcaa.Turn
open Go.Proofs.Ytiaggddpoddbcaa.Before
open Go.Proofs.Ytiaggddpoddbcaa.Spots
open Go.Proofs.Ytiaggddpoddbcaa.RowB
open Go.Proofs.Ytiaggddpoddbcaa.Swap
open Go.Proofs.Ytiaggddpoddbcaa.Push
open Go.Proofs.Ytiaggddpoddbcaa.ThingS
open Go.Proofs.Ytiaggddpoddbcaa.IndexS
set_option linter.unusedVariables false
set_option linter.unusedSimpArgs false
/-- one entry of a heap is another one now -/
theorem turned_one {α : Type} [Inhabited α] {lt : α → α → Prop} (o : STO lt) {l : List α} {i : Nat} (h : Hp lt l l.length) (hi : i < l.length) (a : α) : D0 lt (l.set i a) (l.set i a).length i := by
  rw [List.length_set]
  refine ⟨fun k hk hkn h1 h2 => ?_, fun k hk hkn h1 h2 => ?_⟩
  · rw [pl_set hi, pl_set hi, if_neg h1, if_neg h2]
    exact h k hk hkn
  · have h3 := par_lt hk
    have h4 := par_lt h2
    rw [pl_set hi, pl_set hi, if_neg (by omega), if_neg (by omega)]
    have q := h k hk hkn
    rw [h1] at q
    exact o.le_trans (h i h2 (by omega)) q
theorem tick_set {base : Nat} {w : World} {v : Value} {l : Es} {g : Nat} (h : w.ownsRow base 96 2 v l.length (l.flatMap cS)) (hg : v.ownBlock = some g) (i : Nat) (hi : i < l.length) (t : Int) :
    (w.setCell ⟨g, i * 2 + 1, none⟩ (.int .i64 t)).ownsRow base 96 2 v (l.set i ((pl l i).1, t)).length ((l.set i ((pl l i).1, t)).flatMap cS) := by
  refine ⟨by rw [c_len], ?_⟩
  rcases h.2 with ⟨rfl, hn⟩ | ⟨g', cap, cur, rfl, hb, hgg, h1, h2, h3, h4⟩
  · omega
  · cases hg
    rw [List.length_set]
    refine .inr ⟨g', cap, _, rfl, hb, set_at hgg _, h1, h2, by simpa using h3, ?_⟩
    have q : (l.flatMap cS).set (i * 2) (.string (mk (pl l i).1)) = l.flatMap cS := by
      have e := (c_get l i hi).1
      rw [← pl_in hi] at e
      obtain ⟨hlt, e2⟩ := List.getElem?_eq_some_iff.1 e
      rw [← e2]
      exact List.set_getElem_self hlt
    rw [flat_set, q, ← h4]
    simp [List.take_set]
theorem set_perm {α : Type} (l : List α) (i : Nat) (hi : i < l.length) (a : α) : (l.set i a).Perm (a :: l.eraseIdx i) := by
  induction l generalizing i with
  | nil => exact absurd hi (by simp)
  | cons x r ih =>
    cases i with
    | zero => exact List.Perm.refl _
    | succ i =>
      rw [List.set_cons_succ, List.eraseIdx_cons_succ]
      exact ((ih i (by simpa using hi)).cons x).trans (List.Perm.swap _ _ _)
theorem get_perm {α : Type} (l : List α) (i : Nat) (hi : i < l.length) : (l[i] :: l.eraseIdx i).Perm l := by
  have := (set_perm l i hi l[i]).symm
  rw [List.set_getElem_self hi] at this
  exact this
/-- what s is once k has the tick t -/
def Given (s : Es) (k : Bs) (t : Int) (s' : Es) : Prop := (∃ x s0, x.1 = k ∧ (s0 ++ [x]).Perm s ∧ s'.Perm (s0 ++ [(k, t)])) ∨ ((∀ x ∈ s, x.1 ≠ k) ∧ s'.Perm (s ++ [(k, t)]))
set_option maxHeartbeats 1000000 in
set_option maxRecDepth 100000 in
theorem set_call {base b : Nat} {s : Es} {w : World} (h : IX base b w s) (k : Bs) (hk : k.length ≤ 281474976710656) (t : Int) (ht : 0 ≤ t) (ht2 : t ≤ 9007199254740992) (hs : s.length + 1 < 1099511627776) :
    Calls Try.prog 27 #[ptr b, .string (mk k), .int .i64 t] w fun e w' => e = .returned (.int .i64 0) ∧ (∃ s', Given s k t s' ∧ IX base b w' s') ∧ Ev DT base w w' := by
  obtain ⟨l, hr, hh, hp⟩ := h
  obtain ⟨mv, p, q, c1, hl, hq⟩ := find_run hr.1 k hk
  have g1 : ¬ t < 0 := by omega
  have g2 : ¬ 9007199254740992 < t := by omega
  rcases hq with ⟨rfl, hpl, hpk⟩ | ⟨rfl, hno⟩
  · obtain ⟨ev, mv', h'⟩ := hr.1
    obtain ⟨g, c, cur, rfl, hbg, hg⟩ := row_info h'.ent (by omega)
    obtain ⟨g', c', e', _, hc⟩ := row_block h'.ent (by omega)
    have eg : g = g' := by simp only [Value.slice.injEq, Option.some.injEq, Addr.mk.injEq] at e'; exact e'.1.1
    rw [← eg] at hc
    have c0 : w.cell? ⟨b, 0, none⟩ = some (.slice (some ⟨g, 0, none⟩) l.length c) := (Lib.cell_of_heap h'.idx 0).trans rfl
    have k1 := (hc p hpl).2
    have f1 : w.frozen? ⟨g, p * 2 + 1, none⟩ = false := Lib.frozen_of_heap hg _
    have nbg : b ≠ g := fun e => by have := h'.idx; rw [e, hg] at this; cases this
    have rt : RT base b (w.setCell ⟨g, p * 2 + 1, none⟩ (.int .i64 t)) (l.set p ((pl l p).1, t)) := by
      refine ⟨⟨_, mv', ⟨(set_ne nbg _).trans h'.idx, h'.bb, tick_set h'.ent rfl p hpl t, ?_, h'.keys.set hpl t, fun e he => ?_⟩⟩, by rw [List.length_set]; exact hr.2⟩
      · rcases h'.map with ⟨_, rfl⟩ | ⟨bm, D, e, hbm, own, sp⟩
        · simp at hpl
        · rw [List.length_set]
          exact .inr ⟨bm, D, e, hbm, own.setCell (owns_cells own hg) _, sp.set hpl t⟩
      · rcases List.mem_or_eq_of_mem_set he with q | rfl
        · exact h'.wide e q
        · exact h'.wide (pl l p) (by rw [pl_in hpl]; exact List.getElem_mem hpl)
    have v1 : Ev DT base w (w.setCell ⟨g, p * 2 + 1, none⟩ (.int .i64 t)) := Ev.set hg hbg rfl _
    have H := hid_of (fixRowS (ent_sto keysS) (ptr b) (thingS base b) _ _ p rt (by rw [List.length_set]; exact hpl) rt.2 (turned_one (ent_sto keysS) hh hpl _))
    have HV := hid_of v1
    have HG := hid_of (show Given s k t (l.set p ((pl l p).1, t)) from .inl ⟨pl l p, l.eraseIdx p, hpk, by
      refine List.Perm.trans ?_ hp
      rw [pl_in hpl]
      exact (List.perm_append_singleton _ _).trans (get_perm l p hpl), by
      rw [hpk]
      exact (set_perm l p hpl _).trans (List.perm_append_singleton _ _).symm⟩)
    have hb := hr.2
    clear hr hh hp hpk h' hc rt v1 e' eg hg
    go_enter Try.func27, Try.ntmps27
    go_wp2_with fail
    refine H.out.mono ?_
    rintro e w1 ⟨rfl, ⟨l', r1, h1, p1⟩, f1⟩
    have HE := hid_of (And.intro r1 (And.intro h1 (And.intro p1 f1)))
    clear r1 h1 p1 f1
    go_wp2_with fail
    go_ret
    exact ⟨rfl, ⟨_, HG.out, ⟨l', HE.out.1, HE.out.2.1, HE.out.2.2.1⟩⟩, HV.out.trans HE.out.2.2.2⟩
  · have H := hid_of (pushRowS (ent_sto keysS) (ptr b) (thingS base b) w l (k, t) hr ⟨hk, hno, by rw [hp.length_eq]; exact hs⟩ hr.2 hh)
    have HG := hid_of (show Given s k t (s ++ [(k, t)]) from .inr ⟨fun x hx e => by
      obtain ⟨i, hi, e2⟩ := List.getElem_of_mem (hp.mem_iff.2 hx)
      exact hno i hi (by rw [pl_in hi, e2]; exact e), List.Perm.refl _⟩)
    have HP := hid_of hp
    unfold eS at H
    clear hr hh hp hno
    go_enter Try.func27, Try.ntmps27
    go_wp2_with fail
    refine H.out.mono ?_
    rintro e w1 ⟨rfl, ⟨l', r1, h1, p1⟩, f1⟩
    have HE := hid_of (And.intro r1 (And.intro h1 (And.intro p1 f1)))
    clear r1 h1 p1 f1
    go_wp2_with fail
    go_ret
    exact ⟨rfl, ⟨_, HG.out, ⟨l', HE.out.1, HE.out.2.1, HE.out.2.2.1.trans (HP.out.append_right _)⟩⟩, HE.out.2.2.2⟩
end Go.Proofs.Ytiaggddpoddbcaa.SetS
