/- What All gathers. -/
import Derived.Test.YtgmnmcaclpfknaaFindC
import Derived.RangeFuncFrom
import Derived.Laws.AppendOwn
namespace Go.Proofs.Ytgmnmcaclpfknaa.AllP
open Go.RowKit
open Go.Proofs.Ytgmnmcaclpfknaa.Tab
open Go.Proofs.Ytgmnmcaclpfknaa.Base
open Go.Proofs.Ytgmnmcaclpfknaa.Sect
open Go.Proofs.Ytgmnmcaclpfknaa.Thr
open Go.Proofs.Ytgmnmcaclpfknaa.FindP
open Go.Proofs.Ytgmnmcaclpfknaa.RowsL (valS cellsS)
set_option linter.unusedVariables false
set_option linter.unusedSimpArgs false
abbrev flatS (l : List Sc) : List Value := l.flatMap cellsS
theorem flatS_len : ∀ l : List Sc, (flatS l).length = l.length * 7
  | [] => rfl
  | r :: l => by
    show (cellsS r ++ flatS l).length = _
    rw [List.length_append, flatS_len l, List.length_cons]
    show 7 + _ = _
    omega
theorem info23 : (Try.prog.info? 23).map (fun i => (i.zero, i.size, i.bytes)) = some (some (.agg #[.string ⟨#[]⟩, .int .i64 0, .bool false, .bool false, .int .i64 0, .int .i64 0, .int .i64 0]), 7, 56) := by kernel_rfl
theorem parts23 : ∃ i, Try.prog.info? 23 = some i ∧ i.zero = some (.agg #[.string ⟨#[]⟩, .int .i64 0, .bool false, .bool false, .int .i64 0, .int .i64 0, .int .i64 0]) ∧ i.size = 7 ∧ i.bytes = 56 := by
  have h := info23
  cases e : Try.prog.info? 23 with
  | none => rw [e] at h; cases h
  | some i =>
    rw [e] at h
    simp at h
    exact ⟨i, rfl, h.1, h.2.1, h.2.2⟩
theorem new7 (w : World) (r : Sc) : ∀ (j : Nat) (u : Value), (cellsS r)[j]? = some u → (w.alloc (.cells (cellsS r).toArray 23)).cell? ((⟨w.heap.size, 0, none⟩ : Addr).add j) = some u := fun j u hj => by
  rw [add_off, Nat.zero_add, Lib.cell_of_heap (heap_alloc_new w _)]
  simpa using hj
theorem app7 {B : Nat} {w : World} {v : Value} {l : List Sc} (r : Sc) (h : w.ownsRow B 23 7 v l.length (flatS l)) (hB : B ≤ w.heap.size) (hl : l.length < 1000000) :
    ∃ v' w', (Builtin.append_ #[29, 29] 29 #[v, .slice (some ⟨w.heap.size, 0, none⟩) 1 1]).run Try.prog (w.alloc (.cells (cellsS r).toArray 23)) = .ok v' w' ∧ w'.ownsRow B 23 7 v' (l ++ [r]).length (flatS (l ++ [r])) ∧ (w.alloc (.cells (cellsS r).toArray 23)).grownBy w' v.ownBlock := by
  obtain ⟨i, hi, hz0, hz1, hz2⟩ := parts23
  obtain ⟨v', w', hr, ho, hg, _⟩ := run_append_own (P := Try.prog) (w.alloc (.cells (cellsS r).toArray 23)) B 29 29 23 i _ 7 56 Try.underlying29 hi hz0 hz1 hz2 rfl (by decide) v l.length (flatS l) (h.alloc _) ⟨w.heap.size, 0, none⟩ 1 1 (cellsS r) rfl (new7 w r) (by simp [cellsS, Value.oneCell']) (by unfold maxLen; omega) (by omega) (by simp; omega)
  refine ⟨v', w', hr, ?_, hg⟩
  rw [List.length_append]
  show w'.ownsRow B 23 7 v' (l.length + 1) (List.flatMap cellsS (l ++ [r]))
  rw [List.flatMap_append]
  simpa using ho
/- All's own: the box of what is gathered, and its row -/
structure AI (w : World) (T : Nat) (l : List Sc) (W : World) : Prop where
  bel : Below w.heap.size w W
  size : T + 1 ≤ W.heap.size
  wT : w.heap.size ≤ T
  row : ∃ v, W.heap[T]? = some (.cells #[v] 29 (0, 0)) ∧ W.ownsRow w.heap.size 23 7 v l.length (flatS l)
section
variable {w : World} {T : Nat} {l : List Sc} {W W' : World}
theorem own_keep {B : Nat} {v : Value} (h : W.ownsRow B 23 7 v l.length (flatS l)) (hk : ∀ (k : Nat) (cs : Array Value) (fz : Nat × Nat), W.heap[k]? = some (.cells cs 23 fz) → W'.heap[k]? = some (.cells cs 23 fz)) : W'.ownsRow B 23 7 v l.length (flatS l) := by
  refine ⟨h.1, h.2.imp id ?_⟩
  rintro ⟨g', cap, cur, e', hb', hg', r⟩
  exact ⟨g', cap, cur, e', hb', hk _ _ _ hg', r⟩
theorem AI.keep (h : AI w T l W) (hb : Below w.heap.size w W') (hs : W.heap.size ≤ W'.heap.size) (hk : ∀ (k : Nat) (cs : Array Value) (t : TypeId) (fz : Nat × Nat), W.heap[k]? = some (.cells cs t fz) → W'.heap[k]? = some (.cells cs t fz)) : AI w T l W' := by
  obtain ⟨v, h1, h2⟩ := h.row
  exact ⟨hb, Nat.le_trans h.size hs, h.wT, v, hk _ _ _ _ h1, own_keep h2 fun k cs fz e => hk k cs _ fz e⟩
theorem AI.grown {row : Option Nat} (h : AI w T l W) (hg : W.grownBy W' row) (hr : ∀ r, row = some r → T + 1 ≤ r ∧ ∃ o : Obj, W.heap[r]? = some o ∧ o.isCells = false) : AI w T l W' :=
  h.keep (h.bel.grown hg h.bel.size (fun j hj => by have := (hr j hj).1; have := h.wT; omega)) hg.size fun k cs t fz hk => (hg.block k (lt_of hk) (fun e => by
    obtain ⟨_, o, ho, hc⟩ := hr k e.symm
    rw [hk] at ho
    cases ho
    cases hc)).trans hk
theorem AI.below (h : AI w T l W) (b : Below W.heap.size W W') : AI w T l W' := h.keep (h.bel.trans (b.mono h.bel.size)) b.size fun k cs t fz e => (b.block k (lt_of e)).trans e
end
section
variable {w : World} {T : Nat} {l : List Sc} {V w5 w6 : World}
/- one more -/
theorem AI.step (h : AI w T l V) {vg v' : Value} (r : Sc) (hv1 : V.heap[T]? = some (.cells #[vg] 29 (0, 0))) (hv2 : V.ownsRow w.heap.size 23 7 vg l.length (flatS l)) (b5 : Below V.heap.size V w5)
    (ho : w6.ownsRow w.heap.size 23 7 v' (l ++ [r]).length (flatS (l ++ [r]))) (hg : (w5.alloc (.cells (cellsS r).toArray 23)).grownBy w6 vg.ownBlock) :
    AI w T (l ++ [r]) (w6.setCell ⟨T, 0, none⟩ v') ∧ KeepsFrom (T + 1) V (w6.setCell ⟨T, 0, none⟩ v') ∧ Kp V (w6.setCell ⟨T, 0, none⟩ v') ∧ w6.heap[T]? = some (.cells #[vg] 29 (0, 0)) := by
  have hown : ∀ q, vg.ownBlock = some q → w.heap.size ≤ q ∧ ∃ cur, V.heap[q]? = some (.cells cur 23 (0, 0)) := fun q hq => by
    rcases hv2.2 with ⟨e', _⟩ | ⟨g', cap, cur, e', hb, hg', _⟩
    · rw [e'] at hq; cases hq
    · rw [e'] at hq
      injection hq with hq
      have : g' = q := hq
      subst this
      exact ⟨hb, cur, hg'⟩
  have b6 : Below V.heap.size V (w5.alloc (.cells (cellsS r).toArray 23)) := b5.alloc b5.size _
  have k1 : ∀ (j : Nat) (o : Obj), V.heap[j]? = some o → (∀ cs fz, o ≠ Obj.cells cs 23 fz) → w6.heap[j]? = some o := fun j o hj hne => by
    have hl := (Array.getElem?_eq_some_iff.1 hj).1
    refine (hg.block j (Nat.lt_of_lt_of_le hl b6.size) (fun e => ?_)).trans ((b6.block j hl).trans hj)
    obtain ⟨_, cur, hc⟩ := hown j e.symm
    rw [hj] at hc
    injection hc with hc
    exact hne _ _ hc
  have t6 := k1 T _ hv1 (fun cs fz e => by injection e with _ e; cases e)
  have s6 : V.heap.size ≤ w6.heap.size := Nat.le_trans b6.size hg.size
  have bw : Below w.heap.size w w6 := (h.bel.trans (b6.mono h.bel.size)).grown hg (Nat.le_trans h.bel.size b6.size) (fun j hj => (hown j hj).1)
  have hT : ∀ cs fz, w6.heap[T]? ≠ some (Obj.cells cs 23 fz) := fun cs fz e => by rw [t6] at e; injection e with e; injection e with _ e; cases e
  refine ⟨⟨bw.setCell h.wT _, by rw [size_set]; exact Nat.le_trans h.size s6, h.wT, v', (set_at t6 _).trans rfl, own_keep ho fun k cs fz e => (set_ne (fun q => hT cs fz (by rw [← q]; exact e)) _).trans e⟩, ⟨by rw [size_set]; exact s6, fun k o hk ho hc => (set_ne (by omega) _).trans (k1 k o ho (by rintro cs fz rfl; cases hc))⟩, ⟨by rw [size_set]; exact s6, fun k cs fz e => ?_⟩, t6⟩
  have hne : k ≠ T := by
    rintro rfl
    rw [hv1] at e
    injection e with e
    injection e with _ e
    cases e
  rw [set_ne hne, k1 k _ e (fun cs' fz' q => by injection q with _ q; cases q), e]
end
end Go.Proofs.Ytgmnmcaclpfknaa.AllP
