/- DueTakes: all that is due, taken bit by bit. -/
import Derived.Test.YtiaggddpoddbcaaTakesM
import Derived.Test.YtiaggddpoddbcaaNextS
namespace Go.Proofs.Ytiaggddpoddbcaa.TakesL
open Go.RowKit Go.Maps Go.Shelf
open Go.Proofs.Ytiaggddpoddbcaa.HeapMath
open Go.Proofs.Ytiaggddpoddbcaa.Heap
open Go.Proofs.Ytiaggddpoddbcaa.Turn
open Go.Proofs.Ytiaggddpoddbcaa.Before
open Go.Proofs.Ytiaggddpoddbcaa.RowB
open Go.Proofs.Ytiaggddpoddbcaa.Spots
open Go.Proofs.Ytiaggddpoddbcaa.ThingS
open Go.Proofs.Ytiaggddpoddbcaa.IndexS
open Go.Proofs.Ytiaggddpoddbcaa.SetS
open Go.Proofs.Ytiaggddpoddbcaa.Peek
open Go.Proofs.Ytiaggddpoddbcaa.PeekS
open Go.Proofs.Ytiaggddpoddbcaa.Take
open Go.Proofs.Ytiaggddpoddbcaa.NewS
open Go.Proofs.Ytiaggddpoddbcaa.Awake
open Go.Proofs.Ytiaggddpoddbcaa.RefP
open Go.Proofs.Ytiaggddpoddbcaa.RefT
open Go.Proofs.Ytiaggddpoddbcaa.RefD
open Go.Proofs.Ytiaggddpoddbcaa.RefS
open Go.Proofs.Ytiaggddpoddbcaa.SortM
open Go.Proofs.Ytiaggddpoddbcaa.Both
open Go.Proofs.Ytiaggddpoddbcaa.Do
open Go.Proofs.Ytiaggddpoddbcaa.TakesM
set_option linter.unusedVariables false
set_option linter.unusedSimpArgs false
structure Dd where
  k : Int
  key : Bs
  n : Int
  m : Int
/- a script of deeds, as it lies in memory -/
def DSl (w : World) (a : Option Addr) (l : List Dd) : Prop := ∀ i (hi : i < l.length), ∃ g o, a = some ⟨g, o, none⟩ ∧ w.cell? ⟨g, o + i * 4, none⟩ = some (.int .i64 l[i].k) ∧ w.cell? ⟨g, o + i * 4 + 1, none⟩ = some (.string (mk l[i].key)) ∧ w.cell? ⟨g, o + i * 4 + 2, none⟩ = some (.int .i64 l[i].n) ∧ w.cell? ⟨g, o + i * 4 + 3, none⟩ = some (.int .i64 l[i].m)
theorem DSl.below {w w' : World} {a : Option Addr} {l : List Dd} (h : DSl w a l) (hb : Below w.heap.size w w') : DSl w' a l := fun i hi => by
  obtain ⟨g, o, e, c0, c1, c2, c3⟩ := h i hi
  exact ⟨g, o, e, (hb.cell (block_lt_of_cell c0)).trans c0, (hb.cell (block_lt_of_cell c1)).trans c1, (hb.cell (block_lt_of_cell c2)).trans c2, (hb.cell (block_lt_of_cell c3)).trans c3⟩
/- what the law's loops keep -/
structure St (w : World) (b y N : Nat) (wx : World) : Prop where
  pr : ∃ s S, PR w.heap.size b y wx s S ∧ s.length ≤ N
  bel : Below w.heap.size w wx
theorem pr_new (w : World) : PR w.heap.size w.heap.size (w.heap.size + 1) ((w.alloc (.cells #[.slice none 0 0, .map none] 73)).alloc (.cells #[.slice none 0 0] 28)) [] [] := by
  have h1 := ix_below (new_ix w) ((Below.refl _ (w.alloc (.cells #[.slice none 0 0, .map none] 73))).alloc (Nat.le_refl _) (.cells #[.slice none 0 0] 28))
  refine ⟨h1, ⟨.slice none 0 0, ?_, none, 0, rfl, Nat.le_refl _, fun i hi => absurd hi (by simp)⟩, ⟨List.Perm.refl _, List.Pairwise.nil⟩, List.nodup_nil⟩
  have e : (w.alloc (.cells #[.slice none 0 0, .map none] 73)).heap.size = w.heap.size + 1 := by
    show (w.heap.push _).size = _
    exact Array.size_push _
  rw [← e]
  show ((w.alloc (.cells #[.slice none 0 0, .map none] 73)).heap.push _)[(w.alloc (.cells #[.slice none 0 0, .map none] 73)).heap.size]? = _
  exact Array.getElem?_push_size
theorem rshape {B n : Nat} {w : World} {v : Value} {xs : List Value} (h : w.ownsRow B 9 1 v n xs) : ∃ a c, v = .slice a n c := by
  rcases h.2 with ⟨rfl, hn⟩ | ⟨g, cap, cur, rfl, _⟩
  · rw [hn]; exact ⟨_, _, rfl⟩
  · exact ⟨_, _, rfl⟩
/- a row of texts alone has grown: the index stands -/
theorem ix_grown {base b B n : Nat} {s : Es} {w w' : World} {v : Value} {xs : List Value} (h : IX base b w s) (r : w.ownsRow B 9 1 v n xs) (o : w.grownBy w' v.ownBlock) : IX base b w' s := by
  obtain ⟨l, ⟨⟨ev, mv, h⟩, hl⟩, hh, hp⟩ := h
  have ne : ∀ {g : Nat} {ob : Obj}, w.heap[g]? = some ob → (∀ cs, ob ≠ .cells cs 9 (0, 0)) → w'.heap[g]? = w.heap[g]? := fun {g ob} q nn => o.block g (lt_of q) fun e => by
    rcases r.2 with ⟨rfl, _⟩ | ⟨g', cap, cur, rfl, _, hg, _⟩
    · simp [Value.ownBlock] at e
    · simp [Value.ownBlock] at e
      subst e
      rw [hg] at q
      cases q
      exact nn _ rfl
  refine ⟨l, ⟨⟨ev, mv, ⟨(ne h.idx (by simp)).trans h.idx, h.bb, ?_, ?_, h.keys, h.wide⟩⟩, hl⟩, hh, hp⟩
  · refine ⟨h.ent.1, h.ent.2.imp id ?_⟩
    rintro ⟨g, cap, cur, e, hb, hg, r⟩
    exact ⟨g, cap, cur, e, hb, (ne hg (by simp)).trans hg, r⟩
  · rcases h.map with q | ⟨bm, D, e, hbm, own, sp⟩
    · exact .inl q
    · obtain ⟨es, c, q, r⟩ := own
      exact .inr ⟨bm, D, e, hbm, ⟨es, c, (ne q (by simp)).trans q, r⟩, sp⟩
theorem row_grown {B B2 n : Nat} {w w' : World} {u v : Value} {xs : List Value} (r : w.ownsRow B 9 1 u n xs) (hu : ∀ g, u.ownBlock = some g → g < B2) (hv : ∀ g, v.ownBlock = some g → B2 ≤ g) (o : w.grownBy w' v.ownBlock) : w'.ownsRow B 9 1 u n xs := by
  refine ⟨r.1, r.2.imp id ?_⟩
  rintro ⟨g, cap, cur, e1, hb, hg, k⟩
  refine ⟨g, cap, cur, e1, hb, (o.block g (lt_of hg) fun q => ?_).trans hg, k⟩
  have h1 := hu g (by rw [e1]; rfl)
  have h2 := hv g q.symm
  omega
theorem info9 : (Try.prog.info? 9).map (fun i => (i.zero, i.size, i.bytes)) = some (some (.string ⟨#[]⟩), 1, 16) := by kernel_rfl
theorem parts9 : ∃ i, Try.prog.info? 9 = some i ∧ i.zero = some (.string ⟨#[]⟩) ∧ i.size = 1 ∧ i.bytes = 16 := by
  have h := info9
  cases e : Try.prog.info? 9 with
  | none => rw [e] at h; cases h
  | some i =>
    rw [e] at h
    simp at h
    exact ⟨i, rfl, h.1, h.2.1, h.2.2⟩
/- a row of texts laid behind a row of texts -/
theorem tk_app {B B2 n m : Nat} {w : World} {v u : Value} {l k : List Bs} (h : w.ownsRow B 9 1 v n (l.map sv)) (hu : w.ownsRow B2 9 1 u m (k.map sv)) (hn : n = l.length) (hm : m = k.length) (hb : n + m < 4398046511104) (hB : B ≤ w.heap.size) (ty : TypeId) :
    ∃ v' w', (Builtin.append_ #[52, 52] ty #[v, u]).run Try.prog w = .ok v' w' ∧ w'.ownsRow B 9 1 v' (n + m) ((l ++ k).map sv) ∧ w.grownBy w' v.ownBlock := by
  obtain ⟨i, hi, hz0, hz1, hz2⟩ := parts9
  rcases hu.2 with ⟨rfl, h0⟩ | ⟨g, cap, cur, rfl, hb2, hg, q⟩
  · obtain rfl : k = [] := List.length_eq_zero_iff.1 (by omega)
    subst h0
    refine ⟨v, w, ?_, by simpa using h, World.grownBy.refl _ _⟩
    have hld : ∀ x, (loadCells x 0).run Try.prog w = .ok #[] w := fun x => by simpa using run_loadCells_list (P := Try.prog) w x [] (by simp)
    rcases h.2 with ⟨rfl, rfl⟩ | ⟨g, cp, xs, rfl, hBg, hr, hx, hlc, ht⟩
    · simp [Builtin.append_, run_underlying Try.underlying52, Builtin.lenOf, Builtin.firstCells, sizeOf, typeInfo, hi, hz1, hld]
    · simp [Builtin.append_, run_underlying Try.underlying52, Builtin.lenOf, Builtin.firstCells, sizeOf, typeInfo, hi, hz1, hld, hx, storeCells]
  · obtain ⟨v', w', h1, h2, h3, _⟩ := run_append_own (P := Try.prog) w B 52 ty 9 i _ 1 16 Try.underlying52 hi hz0 hz1 hz2 rfl (by decide) v n (l.map sv) h ⟨g, 0, none⟩ m cap (k.map sv) (by simp [hm]) (fun j x hj => hu.cells rfl j x hj) (by intro x hx; obtain ⟨z, _, rfl⟩ := List.mem_map.1 hx; rfl) (by unfold maxLen; omega) (by omega) hB
    exact ⟨v', w', h1, by rw [List.map_append]; exact h2, h3⟩
end Go.Proofs.Ytiaggddpoddbcaa.TakesL
