/- The program's index and the document's list beside one another: each stands while the other turns. -/
import Derived.Test.YtiaggddpoddbcaaRefS
import Derived.Test.YtiaggddpoddbcaaSortM
namespace Go.Proofs.Ytiaggddpoddbcaa.Both
open Go.RowKit Go.Maps Go.Shelf
open Go.Proofs.Ytiaggddpoddbcaa.HeapMath
open Go.Proofs.Ytiaggddpoddbcaa.Heap
open Go.Proofs.Ytiaggddpoddbcaa.Turn
open Go.Proofs.Ytiaggddpoddbcaa.Before
open Go.Proofs.Ytiaggddpoddbcaa.RowB
open Go.Proofs.Ytiaggddpoddbcaa.Spots
open Go.Proofs.Ytiaggddpoddbcaa.ThingS
open Go.Proofs.Ytiaggddpoddbcaa.IndexS
open Go.Proofs.Ytiaggddpoddbcaa.Peek
open Go.Proofs.Ytiaggddpoddbcaa.Take
open Go.Proofs.Ytiaggddpoddbcaa.NewS
open Go.Proofs.Ytiaggddpoddbcaa.RefP
open Go.Proofs.Ytiaggddpoddbcaa.RefT
open Go.Proofs.Ytiaggddpoddbcaa.RefD
open Go.Proofs.Ytiaggddpoddbcaa.RefS
open Go.Proofs.Ytiaggddpoddbcaa.SortM
set_option linter.unusedVariables false
set_option linter.unusedSimpArgs false
/- the document's list at its block -/
def RY (y : Nat) (w : World) (S : Es) : Prop := ∃ v, w.heap[y]? = some (.cells #[v] 28 (0, 0)) ∧ YL w v S
theorem RY.below {y : Nat} {S : Es} {w w' : World} (h : RY y w S) (hb : Below w.heap.size w w') : RY y w' S := by
  obtain ⟨v, h1, h2⟩ := h
  exact ⟨v, (hb.block y (lt_of h1)).trans h1, h2.below hb⟩
theorem cell_same {w w' : World} {g i : Nat} (h : w'.heap[g]? = w.heap[g]?) : w'.cell? ⟨g, i, none⟩ = w.cell? ⟨g, i, none⟩ := by
  unfold World.cell?
  rw [h]
theorem yl_by {w w' : World} {v : Value} {S : Es} (h : YL w v S) (hb : ∀ (g : Nat) (cs : Array Value), w.heap[g]? = some (Obj.cells cs 62 (0, 0)) → w'.heap[g]? = w.heap[g]?) : YL w' v S := by
  obtain ⟨a, c, rfl, hc, h2⟩ := h
  refine ⟨a, c, rfl, hc, fun i hi => ?_⟩
  obtain ⟨g, o, rfl, q1, q2, cs, q3⟩ := h2 i hi
  have e := hb g cs q3
  exact ⟨g, o, rfl, (cell_same e).trans q1, (cell_same e).trans q2, cs, e.trans q3⟩
theorem RY.ev {y base : Nat} {S : Es} {w w' : World} (h : RY y w S) (e : Ev DT base w w') : RY y w' S := by
  obtain ⟨v, h1, h2⟩ := h
  refine ⟨v, (e.block y (lt_of h1) (.inr ?_)).trans h1, yl_by h2 fun g cs q => e.block g (lt_of q) (.inr ?_)⟩
  · rw [kd_cells h1]; rfl
  · rw [kd_cells q]; rfl
theorem ix_oy {base b y : Nat} {s : Es} {w w' : World} {v : Value} (h : IX base b w s) (hy : w.heap[y]? = some (.cells #[v] 28 (0, 0))) (o : Oy y w w') : IX base b w' s := by
  obtain ⟨l, ⟨⟨ev, mv, h⟩, hl⟩, hh, hp⟩ := h
  have ne : ∀ {g : Nat} {ob : Obj}, w.heap[g]? = some ob → (∀ cs, ob ≠ .cells cs 28 (0, 0)) → w'.heap[g]? = w.heap[g]? := fun {g ob} q n => o.block g (lt_of q) fun e => by
    subst e
    rw [hy] at q
    cases q
    exact n _ rfl
  refine ⟨l, ⟨⟨ev, mv, ⟨(ne h.idx (by simp)).trans h.idx, h.bb, ?_, ?_, h.keys, h.wide⟩⟩, hl⟩, hh, hp⟩
  · refine ⟨h.ent.1, h.ent.2.imp id ?_⟩
    rintro ⟨g, cap, cur, e, hb, hg, r⟩
    exact ⟨g, cap, cur, e, hb, (ne hg (by simp)).trans hg, r⟩
  · rcases h.map with q | ⟨bm, D, e, hbm, own, sp⟩
    · exact .inl q
    · obtain ⟨es, c, q, r⟩ := own
      exact .inr ⟨bm, D, e, hbm, ⟨es, c, (ne q (by simp)).trans q, r⟩, sp⟩
/- both sides, in a world: the index holds s, the list S, S is s in order -/
structure PR (base b y : Nat) (w : World) (s S : Es) : Prop where
  ix : IX base b w s
  ry : RY y w S
  srt : Sorted ltS s S
  one : Once s
theorem PR.below {base b y : Nat} {s S : Es} {w w' : World} (h : PR base b y w s S) (hb : Below w.heap.size w w') : PR base b y w' s S := ⟨ix_below h.ix hb, h.ry.below hb, h.srt, h.one⟩
/- what may turn on either side -/
def PT (n : Nat) : Bool := DT n || n == 30
theorem ev_wide {base : Nat} {w w' : World} (e : Ev DT base w w') : Ev PT base w w' := ⟨e.os, e.tape, e.output, e.size, e.kind, fun k hk h => e.block k hk (h.imp id fun q => by unfold PT at q; revert q; cases DT (kd w k) <;> simp)⟩
theorem oy_wide {base y : Nat} {w w' : World} {v v' : Value} (o : Oy y w w') (hb : base ≤ y) (hy : w.heap[y]? = some (.cells #[v] 28 (0, 0))) (hy' : w'.heap[y]? = some (.cells #[v'] 28 (0, 0))) : Ev PT base w w' := by
  refine ⟨o.os, o.tape, o.output, o.size, fun k hk => ?_, fun k hk h => o.block k hk fun e => ?_⟩
  · by_cases e : k = y
    · rw [e, kd_cells hy, kd_cells hy']
    · exact kd_eq (o.block k hk e)
  · subst e
    rcases h with h | h
    · omega
    · rw [kd_cells hy] at h
      cases h
theorem oy_of_set {y : Nat} {w w1 : World} {v v' : Value} {S : Es} (hy : w.heap[y]? = some (.cells #[v] 28 (0, 0))) (b : Below w.heap.size w w1) (h : YL w1 v' S) : Oy y w (w1.setCell ⟨y, 0, none⟩ v') ∧ RY y (w1.setCell ⟨y, 0, none⟩ v') S := by
  have e1 : w1.heap[y]? = some (.cells #[v] 28 (0, 0)) := (b.block y (lt_of hy)).trans hy
  refine ⟨Oy.of b v', v', (set_at e1 _).trans rfl, yl_by h fun g cs q => set_ne (fun e => ?_) _⟩
  subst e
  rw [e1] at q
  cases q
/- the document's Drop and Take, said so -/
theorem rdrop_ry {y : Nat} {S : Es} {w : World} (h : RY y w S) (hl : S.length < 1099511627776) (key : Bs) :
    Calls Try.prog 31 #[ptr y, .string (mk key)] w fun e w' => e = .returned (.bool (decide ((without S key).length < S.length))) ∧ Oy y w w' ∧ RY y w' (without S key) := by
  obtain ⟨v, h1, h2⟩ := h
  refine (rdrop_call h1 h2 hl key).mono ?_
  rintro e w' ⟨rfl, w1, v', b, rfl, o⟩
  exact ⟨rfl, oy_of_set h1 b (yl_own o rfl)⟩
theorem rtake_ry {y : Nat} {S : Es} {w : World} (h : RY y w S) (hl : S.length < 1099511627776) (now most : Int) :
    Calls Try.prog 32 #[ptr y, .int .i64 now, .int .i64 most] w fun e w' => ∃ r, e = .returned r ∧ w'.ownsRow w.heap.size 9 1 r (got S now most).length ((keysOf (got S now most)).map sv) ∧ Oy y w w' ∧ RY y w' (S.drop (got S now most).length) := by
  obtain ⟨v, h1, h2⟩ := h
  refine (rtake_call h1 h2 hl now most).mono ?_
  rintro e w' ⟨r, rfl, o, w1, v', b, rfl, k⟩
  exact ⟨r, rfl, o, oy_of_set h1 b k⟩
theorem rset_ry {y : Nat} {S : Es} {w : World} (h : RY y w S) (hl : S.length < 1099511627776) (key : Bs) (t : Int) (ht : 0 ≤ t) (ht2 : t ≤ 9007199254740992) :
    Calls Try.prog 30 #[ptr y, .string (mk key), .int .i64 t] w fun e w' => e = .returned (.int .i64 0) ∧ Oy y w w' ∧ RY y w' (ins (key, t) (without S key)) := by
  obtain ⟨v, h1, h2⟩ := h
  refine (rset_call h1 h2 hl key t ht ht2).mono ?_
  rintro e w' ⟨rfl, o, v', q1, q2⟩
  exact ⟨rfl, o, v', q1, q2⟩
end Go.Proofs.Ytiaggddpoddbcaa.Both
