/- Pop of an index's row over texts. -/
import Derived.Test.YtiaggddpoddbcaaSwap
import Derived.Test.YtiaggddpoddbcaaPopR
namespace Go.Proofs.Ytiaggddpoddbcaa.Pop
open Go.RowKit Go.Maps
open Go.Proofs.Ytiaggddpoddbcaa.HeapMath
open Go.Proofs.Ytiaggddpoddbcaa.Heap
open Go.Proofs.Ytiaggddpoddbcaa.Turn
open Go.Proofs.Ytiaggddpoddbcaa.Before
open Go.Proofs.Ytiaggddpoddbcaa.Spots
open Go.Proofs.Ytiaggddpoddbcaa.RowB
open Go.Proofs.Ytiaggddpoddbcaa.Swap
open Go.Proofs.Ytiaggddpoddbcaa.PopR
set_option linter.unusedVariables false
set_option linter.unusedSimpArgs false
theorem und68 : Try.prog.underlying 68 = some (.slice (Try.prog.elem 68)) := by kernel_rfl
theorem el68 : Try.prog.elem 68 = 96 := by kernel_rfl
theorem cut_run (g n c : Nat) (h : n + 1 ≤ c) (hn : n < 1099511627776) (W : World) : (Instr.slice 68 (.slice (some ⟨g, 0, none⟩) (n + 1) c) none (some (.int .i64 (n : Int))) none).run Try.prog W = .ok (.slice (some ⟨g, 0, none⟩) n c) W := by
  rw [run_slice_h (P := Try.prog) W 68 (some ⟨g, 0, none⟩) (n + 1) c und68 .i64 (n : Int) (by omega) (by omega), el68, Try.sizeOf96]
  show Result.ok (sliced _ 0 ((n : Int)).toNat c 2) W = _
  unfold sliced
  have e : ¬ c = 0 := by omega
  simp [e, Addr.add]
theorem flat_take (l : Es) (n : Nat) : (l.take n).flatMap cS = (l.flatMap cS).take (n * 2) := by
  induction l generalizing n with
  | nil => simp
  | cons a r ih =>
    cases n with
    | zero => simp
    | succ n =>
      rw [List.take_succ_cons, List.flatMap_cons, List.flatMap_cons, ih n]
      simp only [cS, List.cons_append, List.nil_append]
      rw [show (n + 1) * 2 = n * 2 + 1 + 1 by omega]
      simp only [List.take_succ_cons]
theorem short {base : Nat} {w : World} {g m c n : Nat} {l : Es} (h : w.ownsRow base 96 2 (.slice (some ⟨g, 0, none⟩) m c) m (l.flatMap cS)) (hm : l.length = m) (hn : n ≤ m) : w.ownsRow base 96 2 (.slice (some ⟨g, 0, none⟩) n c) n ((l.take n).flatMap cS) := by
  refine ⟨by rw [c_len, List.length_take]; omega, ?_⟩
  rcases h.2 with ⟨e, _⟩ | ⟨g', cap, cur, e, hb, hg, h1, h2, h3, h4⟩
  · simp at e
  · simp only [Value.slice.injEq, Option.some.injEq, Addr.mk.injEq] at e
    obtain ⟨⟨rfl, _⟩, _, rfl⟩ := e
    refine .inr ⟨g, c, cur, rfl, hb, hg, by omega, h2, h3, ?_⟩
    rw [flat_take, ← h4, List.take_take, Nat.min_eq_left (by omega)]
theorem new_at (V : World) (o : Obj) : (V.alloc o).heap[V.heap.size]? = some o := by
  show (V.heap.push o)[V.heap.size]? = some o
  simp
theorem pop_call {base b : Nat} {l : Es} {w : World} (h : RS base b w l) (h0 : 0 < l.length) (hb : l.length < 1099511627776) :
    Calls Try.prog 82 #[ptr b] w fun e w' => e = .returned (.iface 96 (eS (pl l (l.length - 1)))) ∧ RS base b w' (l.take (l.length - 1)) ∧ Ev DT base w w' := by
  obtain ⟨ev, mv, h⟩ := h
  obtain ⟨n, hn⟩ : ∃ n, l.length = n + 1 := ⟨l.length - 1, by omega⟩
  obtain ⟨g, c, cur, rfl, hbg, hg, hcn⟩ : ∃ g c cur, ev = .slice (some ⟨g, 0, none⟩) (n + 1) c ∧ base ≤ g ∧ w.heap[g]? = some (.cells cur 96 (0, 0)) ∧ n + 1 ≤ c := by
    rcases h.ent.2 with ⟨rfl, q⟩ | ⟨g, cap, cur, rfl, q1, q2, q3, _⟩
    · omega
    · exact ⟨g, cap, cur, by rw [hn], q1, q2, by omega⟩
  obtain ⟨bm, D, rfl, hbm, hown, hsp⟩ : ∃ bm D, mv = .map (some bm) ∧ base ≤ bm ∧ w.ownsMap Try.prog 9 (plainElem Try.prog 3) bm l.length D ∧ Spots lS D l := by
    rcases h.map with ⟨_, rfl⟩ | q
    · simp at h0
    · exact q
  obtain ⟨g', c', e', _, hc⟩ := row_block h.ent (by omega)
  have eg : g = g' := by simp only [Value.slice.injEq, Option.some.injEq, Addr.mk.injEq] at e'; exact e'.1.1
  rw [← eg] at hc
  have nbg : b ≠ g := fun e => by have := h.idx; rw [e, hg] at this; cases this
  have nmb : bm ≠ b := owns_cells hown h.idx
  have nmg : bm ≠ g := owns_cells hown hg
  have hnl : n < l.length := by omega
  have e1 : l.length - 1 = n := by omega
  rw [e1]
  obtain ⟨i0, i1⟩ := hc n hnl
  rw [← pl_in hnl] at i0 i1
  have c0 : w.cell? ⟨b, 0, none⟩ = some (.slice (some ⟨g, 0, none⟩) (n + 1) c) := Lib.cell_of_heap h.idx 0
  have es := ent_set h.ent (g := g) rfl n hnl ([], 0)
  rw [List.length_set, hn] at es
  have es2 := short (n := n) es (by simp [hn]) (by omega)
  rw [List.take_set_of_le (Nat.le_refl _)] at es2
  obtain ⟨W0, hW0⟩ : ∃ W0, W0 = ((w.setCell ⟨g, n * 2, none⟩ (.string ⟨#[]⟩)).setCell ⟨g, n * 2 + 1, none⟩ (.int .i64 0)) := ⟨_, rfl⟩
  have es3 : W0.ownsRow base 96 2 (.slice (some ⟨g, 0, none⟩) n c) n ((l.take n).flatMap cS) := by rw [hW0]; exact es2
  have b0 : W0.heap[b]? = some (.cells #[.slice (some ⟨g, 0, none⟩) (n + 1) c, .map (some bm)] 73 (0, 0)) := by rw [hW0, set_ne nbg, set_ne nbg]; exact h.idx
  have b1 := set_at (i := 0) b0 (.slice (some ⟨g, 0, none⟩) n c)
  have hz : (((w.setCell ⟨g, n * 2, none⟩ (.string ⟨#[]⟩)).setCell ⟨g, n * 2 + 1, none⟩ (.int .i64 0)).setCell ⟨b, 0, none⟩ (.slice (some ⟨g, 0, none⟩) n c)).heap.size = w.heap.size := by rw [size_set, size_set, size_set]
  obtain ⟨W1, hW1⟩ : ∃ W1, W1 = (W0.setCell ⟨b, 0, none⟩ (.slice (some ⟨g, 0, none⟩) n c)).alloc (.cells #[.string (mk (pl l n).1), .int .i64 (pl l n).2] 96) := ⟨_, rfl⟩
  have hs0 : (W0.setCell ⟨b, 0, none⟩ (.slice (some ⟨g, 0, none⟩) n c)).heap.size = w.heap.size := by rw [hW0]; exact hz
  have hbl := lt_of h.idx
  have hgl := lt_of hg
  have B1 : W1.heap[b]? = some (.cells #[.slice (some ⟨g, 0, none⟩) n c, .map (some bm)] 73 (0, 0)) := by
    rw [hW1, Below.heap_alloc _ _ b (by rw [hs0]; exact hbl)]; exact b1
  have X1 : W1.heap[w.heap.size]? = some (.cells #[.string (mk (pl l n).1), .int .i64 (pl l n).2] 96 (0, 0)) := by
    have q := new_at (W0.setCell ⟨b, 0, none⟩ (.slice (some ⟨g, 0, none⟩) n c)) (.cells #[.string (mk (pl l n).1), .int .i64 (pl l n).2] 96)
    rw [hs0, ← hW1] at q
    exact q
  have R1 : W1.ownsRow base 96 2 (.slice (some ⟨g, 0, none⟩) n c) n ((l.take n).flatMap cS) := row_later es3 fun k hk => by
    cases hk
    rw [hW1, Below.heap_alloc _ _ g (by rw [hs0]; exact hgl), set_ne (Ne.symm nbg)]
  have m1 : W1.drew.ownsMap Try.prog 9 (plainElem Try.prog 3) bm l.length D := by
    rw [hW1, hW0]
    exact ((((hown.setCell nmg _).setCell nmg _).setCell nmb _).alloc _).drew
  have v1 : Ev DT base w W1 := by
    rw [hW1]
    have a1 := Ev.set (T := DT) (i := n * 2) hg hbg rfl (.string ⟨#[]⟩)
    have g1 := set_at (i := n * 2) hg (.string ⟨#[]⟩)
    have a2 := Ev.set (T := DT) (i := n * 2 + 1) g1 hbg rfl (.int .i64 0)
    have a3 := Ev.set (T := DT) (i := 0) b0 h.bb rfl (.slice (some ⟨g, 0, none⟩) n c)
    have a12 := a1.trans a2
    rw [← hW0] at a12
    exact (a12.trans a3).alloc _
  have wi : (pl l n).1.length ≤ 281474976710656 := h.wide _ (by rw [pl_in hnl]; exact List.getElem_mem hnl)
  obtain ⟨W2, hu, m2, t2⟩ := m1.drop law9 Try.underlying69 (key9 _ wi) 0
  have T0 := hown.tidy law9
  have hpop := hsp.pop litS T0 h.keys h0
  rw [e1] at hpop
  have m2' := owns_norm m2
  rw [hpop.size] at m2'
  have o2 : ∀ k, k ≠ bm → W2.heap[k]? = W1.heap[k]? := fun k hk => turned_block t2 k hk
  have nmx : bm ≠ w.heap.size := Nat.ne_of_lt hown.lt
  have X2 := (o2 w.heap.size (Ne.symm nmx)).trans X1
  have H1 := hid_of (show W1.cell? ⟨b, 1, none⟩ = some (.map (some bm)) ∧ W1.cell? ⟨w.heap.size, 0, none⟩ = some (.string (mk (pl l n).1)) ∧ (Builtin.delete_ #[69, 9] 0 #[.map (some bm), .string (mk (pl l n).1)]).run Try.prog W1.drew = .ok (.tuple #[]) W2 from ⟨Lib.cell_of_heap B1 1, Lib.cell_of_heap X1 0, hu⟩)
  have H2 := hid_of (show W2.cell? ⟨w.heap.size, 0, none⟩ = some (.string (mk (pl l n).1)) ∧ W2.cell? ⟨w.heap.size, 1, none⟩ = some (.int .i64 (pl l n).2) from ⟨Lib.cell_of_heap X2 0, Lib.cell_of_heap X2 1⟩)
  refine (pop_raw b g n c w W1 W2 (mk (pl l n).1) (pl l n).2 (by omega) (some bm) nbg hbl hgl c0 (Lib.frozen_of_heap h.idx 0) i0 i1 (Lib.frozen_of_heap hg _) (Lib.frozen_of_heap hg _) (cut_run g n c hcn (by omega)) (hid_of (by rw [hW1, hW0])) H1 H2).mono ?_
  rintro e w' ⟨rfl, rfl⟩
  have elen : (l.take n).length = n := by rw [List.length_take]; omega
  refine ⟨rfl, ⟨.slice (some ⟨g, 0, none⟩) n c, .map (some bm), ⟨(o2 b (Ne.symm nmb)).trans B1, h.bb, ?_, .inr ⟨bm, _, rfl, hbm, m2', hpop⟩, h.keys.take n, fun e he => h.wide e (List.mem_of_mem_take he)⟩⟩, ?_⟩
  · rw [elen]
    exact row_later R1 fun k hk => by cases hk; exact o2 g (Ne.symm nmg)
  · exact v1.drew.trans (Ev.turned t2 hbm rfl)
end Go.Proofs.Ytiaggddpoddbcaa.Pop
