/- What the law DueOwn keeps: its answer's place, the mark, both indexes, rows of texts, one of which may be spoilt and grown. -/
import Derived.Test.YtiaggddpoddbcaaTakesL
import Derived.Test.YtiaggddpoddbcaaIterN
import Derived.Test.YtiaggddpoddbcaaNilS
namespace Go.Proofs.Ytiaggddpoddbcaa.DOwnM
open Go.RowKit Go.Maps Go.Shelf
open Go.Proofs.Ytiaggddpoddbcaa.HeapMath
open Go.Proofs.Ytiaggddpoddbcaa.Heap
open Go.Proofs.Ytiaggddpoddbcaa.Turn
open Go.Proofs.Ytiaggddpoddbcaa.Before
open Go.Proofs.Ytiaggddpoddbcaa.RowB
open Go.Proofs.Ytiaggddpoddbcaa.IndexS
open Go.Proofs.Ytiaggddpoddbcaa.Peek
open Go.Proofs.Ytiaggddpoddbcaa.Take
open Go.Proofs.Ytiaggddpoddbcaa.NewS
open Go.Proofs.Ytiaggddpoddbcaa.RefP
open Go.Proofs.Ytiaggddpoddbcaa.RefD
open Go.Proofs.Ytiaggddpoddbcaa.Both
open Go.Proofs.Ytiaggddpoddbcaa.Do
open Go.Proofs.Ytiaggddpoddbcaa.TakesM
open Go.Proofs.Ytiaggddpoddbcaa.TakesL
set_option linter.unusedVariables false
set_option linter.unusedSimpArgs false
/-- what stands from the law's beginning on: its own answer's place, and all below -/
structure So (w0 W : World) : Prop where
  bel : Below w0.heap.size w0 W
  rb : W.heap[w0.heap.size]? = some (.cells #[.bool false] 4 (0, 0))
theorem So.read {w0 W W' : World} (h : So w0 W) (k : Below W.heap.size W W') : So w0 W' := ⟨h.bel.trans (k.mono h.bel.size), (k.block _ (lt_of h.rb)).trans h.rb⟩
theorem So.alloc {w0 W : World} (h : So w0 W) (o : Obj) : So w0 (W.alloc o) := h.read ((Below.refl _ W).alloc (Nat.le_refl _) o)
theorem So.start (w : World) : So w (w.alloc (.cells #[.bool false] 4)) := ⟨(Below.refl _ w).alloc (Nat.le_refl _) _, heap_alloc_new w _⟩
theorem So.low {w0 W W' : World} {B : Nat} (h : So w0 W) (k : Below B W W') (hB : w0.heap.size < B) : So w0 W' := ⟨h.bel.trans (k.mono (Nat.le_of_lt hB)), (k.block _ hB).trans h.rb⟩
theorem ne_nilF (w : World) (B : Nat) : (binOp .neq 59 (.func (.func 44) #[] #[.pointer (some ⟨B, 0, none⟩)]) .nilFunc).run Try.prog w = .ok (.bool true) w := by kernel_rfl
theorem ret_cell (w : World) (p : Nat) (hc : w.cell? ⟨p, 0, none⟩ = some (.bool true)) : ((Sem.run Try.prog (asAddr (Value.pointer (some { block := p, off := 0 }))) w).andThen fun a w' => Sem.run Try.prog (loadVar 4 a) w') = Result.ok (Value.bool true) w := by
  first
    | (simp [asAddr, loadVar, go_sem, hc]; done)
    | (simp [asAddr, loadVar, load, go_sem, Sem.run, hc]; done)
    | (simp [asAddr, loadVar, load, go_sem]; unfold Sem.run; rw [hc]; rfl)
theorem so_own (w0 : World) (B : Nat) (hB : w0.heap.size + 1 ≤ B) : OwnFrom B (fun (pre : List Unit) W => So w0 W) := fun pre W W' row h hg hr => ⟨h.bel.grown hg h.bel.size (fun j hj => by have := (hr j hj).1; omega), (hg.block _ (lt_of h.rb) (fun e => by have := (hr _ e.symm).1; omega)).trans h.rb⟩
/-- with both indexes -/
structure Iq (w0 : World) (D base b y N : Nat) (W : World) : Prop where
  so : So w0 W
  mrk : W.heap[D]? = some (.deferred (some []))
  pr : ∃ s S, PR base b y W s S ∧ s.length ≤ N
  db : D < base
  wb : w0.heap.size < base
  bz : base ≤ W.heap.size
theorem Iq.ev {w0 W W' : World} {D base b y N N' : Nat} (h : Iq w0 D base b y N W) (e : Ev PT base W W') (p : ∃ s S, PR base b y W' s S ∧ s.length ≤ N') : Iq w0 D base b y N' W' :=
  ⟨h.so.low (e.below h.bz) h.wb, (e.block D (lt_of h.mrk) (.inl h.db)).trans h.mrk, p, h.db, h.wb, Nat.le_trans h.bz e.size⟩
theorem Iq.read {w0 W W' : World} {D base b y N : Nat} (h : Iq w0 D base b y N W) (k : Below W.heap.size W W') : Iq w0 D base b y N W' := h.ev (Ev.of_below k) (pr_more h.pr k)
/- a row of texts that has grown: the document's list stands -/
theorem ry_grown {y B n : Nat} {S : Es} {w w' : World} {v : Value} {xs : List Value} (h : RY y w S) (r : w.ownsRow B 9 1 v n xs) (o : w.grownBy w' v.ownBlock) : RY y w' S := by
  have ne : ∀ {g : Nat} {ob : Obj}, w.heap[g]? = some ob → (∀ cs, ob ≠ .cells cs 9 (0, 0)) → w'.heap[g]? = w.heap[g]? := fun {g ob} q nn => o.block g (lt_of q) fun e => by
    rcases r.2 with ⟨rfl, _⟩ | ⟨g', cap, cur, rfl, _, hg, _⟩
    · simp [Value.ownBlock] at e
    · simp [Value.ownBlock] at e
      subst e
      rw [hg] at q
      cases q
      exact nn _ rfl
  obtain ⟨u, h1, h2⟩ := h
  exact ⟨u, (ne h1 (by simp)).trans h1, yl_by h2 fun g cs q => ne q (by simp)⟩
theorem pr_grown {base b y B n : Nat} {s S : Es} {w w' : World} {v : Value} {xs : List Value} (h : PR base b y w s S) (r : w.ownsRow B 9 1 v n xs) (o : w.grownBy w' v.ownBlock) : PR base b y w' s S := ⟨ix_grown h.ix r o, ry_grown h.ry r o, h.srt, h.one⟩
theorem row_apart {B B2 n : Nat} {w w' : World} {u v : Value} {xs : List Value} (r : w.ownsRow B 9 1 u n xs) (hne : ∀ g, v.ownBlock = some g → u.ownBlock ≠ some g) (o : w.grownBy w' v.ownBlock) : w'.ownsRow B 9 1 u n xs := by
  refine ⟨r.1, r.2.imp id ?_⟩
  rintro ⟨g, cap, cur, e1, hb, hg, k⟩
  exact ⟨g, cap, cur, e1, hb, (o.block g (lt_of hg) fun q => hne g q.symm (by rw [e1]; rfl)).trans hg, k⟩
/-- with the rows -/
structure Ow (w0 : World) (D base b y : Nat) (s S : Es) (P : List Bs) (vb vw va : Value) (n : Nat) (W : World) : Prop where
  so : So w0 W
  mrk : W.heap[D]? = some (.deferred (some []))
  pr : PR base b y W s S
  db : D < base
  wb : w0.heap.size < base
  bz : base ≤ W.heap.size
  rb : W.ownsRow 0 9 1 vb P.length (P.map sv)
  rw : W.ownsRow 0 9 1 vw P.length (P.map sv)
  ra : ∃ ks : List Bs, ks.length = n ∧ W.ownsRow base 9 1 va n (ks.map sv)
  nb : ∀ g, va.ownBlock = some g → vb.ownBlock ≠ some g ∧ vw.ownBlock ≠ some g
theorem Ow.next {w0 : World} {D base b y : Nat} {s S : Es} {P : List Bs} {vb vw va va' : Value} {n n' : Nat} {W W' : World} (h : Ow w0 D base b y s S P vb vw va n W) (g : W.grownBy W' va.ownBlock) (r : ∃ ks : List Bs, ks.length = n' ∧ W'.ownsRow base 9 1 va' n' (ks.map sv))
    (o : ∀ k, va'.ownBlock = some k → va.ownBlock = some k ∨ W.heap.size ≤ k) : Ow w0 D base b y s S P vb vw va' n' W' := by
  obtain ⟨ks, hk, ra⟩ := h.ra
  have lo : ∀ k, va.ownBlock = some k → base ≤ k := fun k q => (ra.lt k q).1
  have bB : Below base W W' := ⟨g.os, g.tape, g.output, g.size, fun k q => g.block k (by have := h.bz; omega) fun e => by have := lo k e.symm; omega⟩
  have lb : ∀ k, vb.ownBlock = some k → k < W.heap.size := fun k q => (h.rb.lt k q).2
  have lw : ∀ k, vw.ownBlock = some k → k < W.heap.size := fun k q => (h.rw.lt k q).2
  refine ⟨h.so.low bB h.wb, (bB.block D h.db).trans h.mrk, pr_grown h.pr ra g, h.db, h.wb, Nat.le_trans h.bz g.size, row_apart (B2 := 0) h.rb (fun k q => (h.nb k q).1) g, row_apart (B2 := 0) h.rw (fun k q => (h.nb k q).2) g, r, fun k q => ?_⟩
  rcases o k q with e | e
  · exact h.nb k e
  · exact ⟨fun c => by have := lb k c; omega, fun c => by have := lw k c; omega⟩
theorem set_grown (w : World) (g i : Nat) (v : Value) : w.grownBy (w.setCell ⟨g, i, none⟩ v) (some g) := by
  have e0 : Below 0 w (w.setCell ⟨g, i, none⟩ v) := (Below.refl 0 w).setCell (Nat.zero_le _) v
  exact ⟨e0.os, e0.tape, e0.output, e0.size, fun k hk hne => set_ne (fun x => hne (by rw [x])) v⟩
theorem set_row9 {B : Nat} {w : World} {q n c : Nat} {xs : List Value} (h : w.ownsRow B 9 1 (.slice (some ⟨q, 0, none⟩) n c) n xs) (i : Nat) (hi : i < n) (v : Value) : (w.setCell ⟨q, i, none⟩ v).ownsRow B 9 1 (.slice (some ⟨q, 0, none⟩) n c) n (xs.set i v) := by
  refine ⟨by rw [List.length_set]; exact h.1, ?_⟩
  rcases h.2 with ⟨e, _⟩ | ⟨g, cap, cur, e, hb, hg, r1, r2, r3, r4⟩
  · cases e
  · injection e with e1 _ e3
    injection e1 with e1
    injection e1 with e1
    subst e1 e3
    refine .inr ⟨q, c, _, rfl, hb, set_at hg v, r1, r2, by rw [Array.size_setIfInBounds]; exact r3, ?_⟩
    rw [Array.toList_setIfInBounds, List.take_set, r4]
/-- one place spoilt -/
theorem Ow.spoil {w0 : World} {D base b y : Nat} {s S : Es} {P : List Bs} {vb vw : Value} {a : Option Addr} {n c : Nat} {W : World} (h : Ow w0 D base b y s S P vb vw (.slice a n c) n W) (i : Nat) (hi : i < n) (x : Bs) :
    ∃ g, a = some ⟨g, 0, none⟩ ∧ (∃ z, W.cell? ⟨g, i, none⟩ = some (.string z)) ∧ W.frozen? ⟨g, i, none⟩ = false ∧ Ow w0 D base b y s S P vb vw (.slice a n c) n (W.setCell ⟨g, i, none⟩ (sv x)) := by
  obtain ⟨ks, hk, ra⟩ := h.ra
  have ra' : W.ownsRow base 9 1 (.slice a n c) ks.length (ks.map sv) := by rw [hk]; exact ra
  obtain ⟨q, c', e, ⟨cur, hq⟩, hc⟩ := krow ra' (by omega)
  injection e with e1 e2 e3
  subst e1
  refine ⟨q, rfl, ⟨_, hc i (by omega)⟩, Lib.frozen_of_heap hq i, h.next (set_grown W q i _) ⟨ks.set i x, by rw [List.length_set]; exact hk, ?_⟩ (fun k q => .inl q)⟩
  rw [List.map_set]
  exact set_row9 ra i hi (sv x)
set_option maxRecDepth 100000 in
theorem append_s (base ty : Nat) (w : World) (v : Value) (n : Nat) (xs : List Value) (a0 : Nat) (u : Value) (h : w.ownsRow base 9 1 v n xs) (hn : n < 1099511627776) (hb : base ≤ w.heap.size)
    (hs : w.heap[a0]? = some (.cells #[u] 9 (0, 0))) (o1 : u.oneCell' = true) :
    ∃ a c w', (Builtin.append_ #[52, 52] ty #[v, .slice (some ⟨a0, 0, none⟩) 1 1]).run Try.prog w = .ok (.slice a (n + 1) c) w' ∧ w'.ownsRow base 9 1 (.slice a (n + 1) c) (n + 1) (xs ++ [u]) ∧ w.grownBy w' v.ownBlock ∧ ∀ g, (Value.slice a (n + 1) c).ownBlock = some g → v.ownBlock = some g ∨ w.heap.size ≤ g := by
  obtain ⟨i, hi, hz0, hz1, hz2⟩ := Peek.parts9
  have hnews : ∀ (j : Nat) x, [u][j]? = some x → w.cell? ((⟨a0, 0, none⟩ : Addr).add j) = some x := fun j x hj => by
    have e : (⟨a0, 0, none⟩ : Addr).add j = ⟨a0, j, none⟩ := by unfold Addr.add; by_cases h0 : j = 0 <;> simp [h0]
    rw [e, Lib.cell_of_heap hs, ← hj]
    simp
  have h1 : ∀ x ∈ [u], x.oneCell' = true := fun x hx => by
    simp only [List.mem_cons, List.not_mem_nil, or_false] at hx
    rw [hx]; exact o1
  obtain ⟨v', w', hr, h2, h3, h4⟩ := run_append_own (P := Try.prog) w base 52 ty 9 i _ 1 16 Try.underlying52 hi hz0 hz1 hz2 rfl (by decide) v n xs h ⟨a0, 0, none⟩ 1 1 [u] rfl hnews h1 (by unfold maxLen; omega) (by omega) hb
  obtain ⟨a, c, rfl⟩ := kshape h2
  refine ⟨a, c, w', hr, h2, h3, ?_⟩
  rcases h.2 with ⟨rfl, hn0⟩ | ⟨g, cap, cur, rfl, hbg, hg, hnc, hcm, hcs, htake⟩
  · subst hn0
    have hx : xs = [] := List.length_eq_zero_iff.1 (by rw [h.1])
    subst hx
    obtain ⟨v2, w2, hr2, h5, _, _⟩ := run_append_own (P := Try.prog) w w.heap.size 52 ty 9 i _ 1 16 Try.underlying52 hi hz0 hz1 hz2 rfl (by decide) (.slice none 0 0) 0 [] (World.ownsRow_nil _ _ _ _) ⟨a0, 0, none⟩ 1 1 [u] rfl hnews h1 (by unfold maxLen; omega) (by omega) (Nat.le_refl _)
    rw [hr] at hr2
    injection hr2 with e1 e2
    subst e1
    exact fun g hg => .inr (h5.lt g hg).1
  · by_cases hroom : n + 1 ≤ cap
    · have hr2 := run_append_room (P := Try.prog) w 52 ty 9 i Try.underlying52 hi g n cap cur hg ⟨a0, 0, none⟩ 1 1 [u] (by rw [hz1]; rfl) hnews h1 hroom (by rw [hz1, hcs]; simp; omega)
      rw [hr] at hr2
      injection hr2 with e1 e2
      rw [e1]
      exact fun g hg => .inl hg
    · have hr2 := run_append_grow (P := Try.prog) w 52 ty 9 i _ Try.underlying52 hi hz0 ⟨g, 0, none⟩ n cap xs (by rw [hz1]; exact h.1) (h.cells (g := g) rfl) ⟨a0, 0, none⟩ 1 1 [u] (by rw [hz1]; rfl) hnews (by omega) (by omega) (growslice_fits (by omega) (by rw [hz2]; omega))
      rw [hr] at hr2
      injection hr2 with e1 e2
      rw [e1]
      refine fun g2 hg2 => .inr ?_
      have e : w.heap.size = g2 := by simpa [Value.ownBlock] using hg2
      exact Nat.le_of_eq e
/-- one behind -/
theorem Ow.more {w0 : World} {D base b y : Nat} {s S : Es} {P : List Bs} {vb vw va : Value} {n : Nat} {W : World} (h : Ow w0 D base b y s S P vb vw va n W) (hn : n < 1099511627776) (x : Bs) (ty : Nat) :
    ∃ a c w', (Builtin.append_ #[52, 52] ty #[va, .slice (some ⟨W.heap.size, 0, none⟩) 1 1]).run Try.prog (W.alloc (.cells #[sv x] 9)) = .ok (.slice a (n + 1) c) w' ∧ Ow w0 D base b y s S P vb vw (.slice a (n + 1) c) (n + 1) w' := by
  obtain ⟨ks, hk, ra⟩ := h.ra
  have b1 : Below W.heap.size W (W.alloc (.cells #[sv x] 9)) := (Below.refl _ W).alloc (Nat.le_refl _) _
  obtain ⟨a, c, w', h1, h2, h3, h4⟩ := append_s base ty (W.alloc (.cells #[sv x] 9)) va n _ W.heap.size (sv x) (row_bel ra b1) hn (Nat.le_trans h.bz b1.size) (heap_alloc_new W _) rfl
  have g : W.grownBy w' va.ownBlock := ⟨h3.os, h3.tape, h3.output, Nat.le_trans b1.size h3.size, fun k hk hne => (h3.block k (Nat.lt_of_lt_of_le hk b1.size) hne).trans (b1.block k hk)⟩
  refine ⟨a, c, w', h1, h.next g ⟨ks ++ [x], by rw [List.length_append, hk]; rfl, by rw [List.map_append]; exact h2⟩ fun k q => (h4 k q).imp id fun q => Nat.le_trans b1.size q⟩
theorem row_lo {B B' e n sz : Nat} {w : World} {v : Value} {xs : List Value} (h : w.ownsRow B e sz v n xs) (hB : B' ≤ B) : w.ownsRow B' e sz v n xs := ⟨h.1, h.2.imp id fun ⟨g, cap, cur, q, hb, r⟩ => ⟨g, cap, cur, q, Nat.le_trans hB hb, r⟩⟩
/-- at the law's end -/
structure Fin (w0 : World) (D b y : Nat) (T : Es) (P : List Bs) (vb vw vc : Value) (ya : Option Addr) (yn yc : Nat) (U : World) : Prop where
  so : So w0 U
  mrk : U.heap[D]? = some (.deferred (some []))
  ix : ∃ base, IX base b U T
  cy : U.heap[y]? = some (.cells #[.slice ya yn yc] 28 (0, 0))
  rb : U.ownsRow 0 9 1 vb P.length (P.map sv)
  rw : U.ownsRow 0 9 1 vw P.length (P.map sv)
  rc : U.ownsRow 0 9 1 vc P.length (P.map sv)
theorem Fin.below {w0 : World} {D b y : Nat} {T : Es} {P : List Bs} {vb vw vc : Value} {ya : Option Addr} {yn yc : Nat} {U V : World} (h : Fin w0 D b y T P vb vw vc ya yn yc U) (k : Below U.heap.size U V) : Fin w0 D b y T P vb vw vc ya yn yc V := by
  obtain ⟨base, ix⟩ := h.ix
  exact ⟨h.so.read k, (k.block _ (lt_of h.mrk)).trans h.mrk, ⟨base, ix_below ix k⟩, (k.block _ (lt_of h.cy)).trans h.cy, row_bel h.rb k, row_bel h.rw k, row_bel h.rc k⟩
theorem texts_rows {v1 v2 : Value} {P : List Bs} {w : World} (h1 : w.ownsRow 0 9 1 v1 P.length (P.map sv)) (h2 : w.ownsRow 0 9 1 v2 P.length (P.map sv)) (hl : P.length ≤ 140737488355328) :
    Calls Try.prog 21 #[v1, v2] w fun e w' => e = .returned (.bool true) ∧ Below w.heap.size w w' := by
  refine (texts_call (TS.of_row h1 rfl) (TS.of_row h2 rfl) hl hl).mono ?_
  rintro e w' ⟨rfl, m, rfl⟩
  exact ⟨by rw [decide_eq_true rfl], ⟨rfl, rfl, rfl, Nat.le_refl _, fun _ _ => rfl⟩⟩
end Go.Proofs.Ytiaggddpoddbcaa.DOwnM
