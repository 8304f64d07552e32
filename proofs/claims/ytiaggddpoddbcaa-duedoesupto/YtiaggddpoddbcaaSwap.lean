/- Swap of an index's row over texts. -/
import Derived.Test.YtiaggddpoddbcaaRowB
import Derived.Test.YtiaggddpoddbcaaSwapR
import Derived.Lib.Builder
namespace Go.Proofs.Ytiaggddpoddbcaa.Swap
open Go.RowKit Go.Maps
open Go.Proofs.Ytiaggddpoddbcaa.HeapMath
open Go.Proofs.Ytiaggddpoddbcaa.Heap
open Go.Proofs.Ytiaggddpoddbcaa.Turn
open Go.Proofs.Ytiaggddpoddbcaa.Before
open Go.Proofs.Ytiaggddpoddbcaa.Spots
open Go.Proofs.Ytiaggddpoddbcaa.RowB
open Go.Proofs.Ytiaggddpoddbcaa.SwapR
set_option linter.unusedVariables false
set_option linter.unusedSimpArgs false
theorem owns_norm {w : World} {b n : Nat} {D : DataW Unit} {R : Value → Option (DataW Unit × List MemPlace)} (h : w.ownsMap Try.prog 9 R b n D) : w.ownsMap Try.prog 9 R b (Maps.size D) D := by
  obtain ⟨es, c, hb, F, hs, hD⟩ := h
  refine ⟨es, c, hb, F, ?_, hD⟩
  rw [hD]
  simp [Maps.size, length_sorted]
theorem law9 : Keyed Try.prog 9 := string_keyed Try.underlying9
theorem mk_size (k : Bs) : (mk k).size = k.length := by simp [mk, ByteArray.size]
theorem key9 (k : Bs) (h : k.length ≤ 281474976710656) : keyOf Try.prog 9 (.string (mk k)) = some (lS k) := WideMaps.keyOf_string_mk (P := Try.prog) (s := mk k) Try.underlying9 (by rw [mk_size]; unfold maxLen; omega)
theorem val3 (i : Nat) (h : i < 1099511627776) : plainElem (H := Unit) Try.prog 3 (.int .i64 (i : Int)) = some (num i, []) := plainElem_int Try.underlying3 (by
  show (decide (-9223372036854775808 ≤ (i : Int)) && decide ((i : Int) ≤ 9223372036854775807)) = true
  simp; omega)
theorem flat_set (l : Es) (i : Nat) (e : Bs × Int) : (l.set i e).flatMap cS = ((l.flatMap cS).set (i * 2) (.string (mk e.1))).set (i * 2 + 1) (.int .i64 e.2) := by
  induction l generalizing i with
  | nil => simp
  | cons a r ih =>
    cases i with
    | zero => simp [cS]
    | succ i =>
      rw [List.set_cons_succ, List.flatMap_cons, List.flatMap_cons, ih i]
      simp only [cS, List.cons_append, List.nil_append]
      rw [show (i + 1) * 2 = i * 2 + 1 + 1 by omega]
      simp only [List.set_cons_succ]
theorem ent_set {base : Nat} {w : World} {v : Value} {l : Es} {g : Nat} (h : w.ownsRow base 96 2 v l.length (l.flatMap cS)) (hg : v.ownBlock = some g) (i : Nat) (hi : i < l.length) (e : Bs × Int) :
    ((w.setCell ⟨g, i * 2, none⟩ (.string (mk e.1))).setCell ⟨g, i * 2 + 1, none⟩ (.int .i64 e.2)).ownsRow base 96 2 v (l.set i e).length ((l.set i e).flatMap cS) := by
  refine ⟨by rw [c_len], ?_⟩
  rcases h.2 with ⟨rfl, hn⟩ | ⟨g', cap, cur, rfl, hb, hgg, h1, h2, h3, h4⟩
  · omega
  · cases hg
    rw [List.length_set]
    refine .inr ⟨g', cap, _, rfl, hb, set_at (set_at hgg _) _, h1, h2, by simpa using h3, ?_⟩
    rw [flat_set, ← h4]
    simp [List.take_set]
theorem row_info {base : Nat} {w : World} {v : Value} {l : Es} (h : w.ownsRow base 96 2 v l.length (l.flatMap cS)) (h0 : 0 < l.length) : ∃ g c cur, v = .slice (some ⟨g, 0, none⟩) l.length c ∧ base ≤ g ∧ w.heap[g]? = some (.cells cur 96 (0, 0)) := by
  rcases h.2 with ⟨rfl, hn⟩ | ⟨g, cap, cur, rfl, hb, hg, _⟩
  · omega
  · exact ⟨g, cap, cur, rfl, hb, hg⟩
theorem row_later {base : Nat} {w w' : World} {v : Value} {n : Nat} {xs : List Value} (h : w.ownsRow base 96 2 v n xs) (hk : ∀ g, v.ownBlock = some g → w'.heap[g]? = w.heap[g]?) : w'.ownsRow base 96 2 v n xs := by
  refine ⟨h.1, ?_⟩
  rcases h.2 with hn | ⟨g, cap, cur, rfl, hb, hg, r⟩
  · exact .inl hn
  · exact .inr ⟨g, cap, cur, rfl, hb, (hk g rfl).trans hg, r⟩
theorem turned_block {w w' : World} {b : Nat} (h : w.mapTurned w' b) (k : Nat) (hk : k ≠ b) : w'.heap[k]? = w.heap[k]? := by
  obtain ⟨es, c, es', c', h1, rfl⟩ := h
  exact ChangeMaps.heap_setBlock_other h1 _ hk
theorem cell_eq {w w' : World} {p : Addr} (h : w'.heap[p.block]? = w.heap[p.block]?) : w'.cell? p = w.cell? p := World.cell?_of_block (w := w) h
theorem owns_cells {w : World} {bm n k : Nat} {D : DataW Unit} {R : Value → Option (DataW Unit × List MemPlace)} {cs : Array Value} {t : TypeId} {fz : Nat × Nat} (h : w.ownsMap Try.prog 9 R bm n D) (hc : w.heap[k]? = some (.cells cs t fz)) : bm ≠ k := by
  obtain ⟨es, c, hb, _⟩ := h
  intro e
  rw [e, hc] at hb
  cases hb
theorem set_same {w : World} {g o : Nat} {cs : Array Value} {t : TypeId} {fz : Nat × Nat} {x : Value} (hg : w.heap[g]? = some (.cells cs t fz)) (h : w.cell? ⟨g, o, none⟩ = some x) (v : Value) : (w.setCell ⟨g, o, none⟩ v).cell? ⟨g, o, none⟩ = some v := by
  rw [Lib.cell_of_heap hg] at h
  have hl : o < cs.size := (Array.getElem?_eq_some_iff.1 h).1
  rw [Lib.cell_of_heap (set_at hg v)]
  simp [hl]
theorem swap_call {base b : Nat} {l : Es} {w : World} (h : RS base b w l) (i j : Nat) (hi : i < l.length) (hj : j < l.length) (hb : l.length < 1099511627776) :
    Calls Try.prog 84 #[ptr b, .int .i64 (i : Int), .int .i64 (j : Int)] w fun e w' => e = .returned (.tuple #[]) ∧ RS base b w' (swp l i j) ∧ Ev DT base w w' := by
  obtain ⟨ev, mv, h⟩ := h
  obtain ⟨g, c, cur, rfl, hbg, hg⟩ := row_info h.ent (by omega)
  obtain ⟨bm, D, rfl, hbm, hown, hsp⟩ : ∃ bm D, mv = .map (some bm) ∧ base ≤ bm ∧ w.ownsMap Try.prog 9 (plainElem Try.prog 3) bm l.length D ∧ Spots lS D l := by
    rcases h.map with ⟨_, rfl⟩ | q
    · simp at hi
    · exact q
  obtain ⟨g', c', e', _, hc⟩ := row_block h.ent (by omega)
  cases e'
  have nbg : b ≠ g := fun e => by have := h.idx; rw [e, hg] at this; cases this
  have nmb : bm ≠ b := owns_cells hown h.idx
  have nmg : bm ≠ g := owns_cells hown hg
  obtain ⟨i0, i1⟩ := hc i hi
  obtain ⟨j0, j1⟩ := hc j hj
  rw [← pl_in hi] at i0 i1
  rw [← pl_in hj] at j0 j1
  have c0 : w.cell? ⟨b, 0, none⟩ = some (.slice (some ⟨g, 0, none⟩) l.length c) := by simp [World.cell?, h.idx]
  have fr : ∀ o, w.frozen? ⟨g, o, none⟩ = false := fun o => Lib.frozen_of_heap hg o
  -- the worlds
  have e1 := ent_set h.ent (g := g) rfl i hi (pl l j)
  have e2 := ent_set e1 (g := g) rfl j (by simpa using hj) (pl l i)
  have el : ((l.set i (pl l j)).set j (pl l i)) = swp l i j := rfl
  rw [el] at e2
  obtain ⟨W1, hW1⟩ : ∃ W1, W1 = ((((w.setCell ⟨g, i * 2, none⟩ (.string (mk (pl l j).1))).setCell ⟨g, i * 2 + 1, none⟩ (.int .i64 (pl l j).2)).setCell ⟨g, j * 2, none⟩ (.string (mk (pl l i).1))).setCell ⟨g, j * 2 + 1, none⟩ (.int .i64 (pl l i).2)).drew := ⟨_, rfl⟩
  have r1 : W1.ownsRow base 96 2 (.slice (some ⟨g, 0, none⟩) l.length c) (swp l i j).length ((swp l i j).flatMap cS) := by rw [hW1]; exact e2
  have o1 : ∀ k, k ≠ g → W1.heap[k]? = w.heap[k]? := fun k hk => by
    rw [hW1]
    show ((((w.setCell _ _).setCell _ _).setCell _ _).setCell _ _).heap[k]? = _
    rw [set_ne hk, set_ne hk, set_ne hk, set_ne hk]
  have m1 : W1.drew.ownsMap Try.prog 9 (plainElem Try.prog 3) bm l.length D := by
    rw [hW1]
    exact (((((hown.setCell nmg _).setCell nmg _).setCell nmg _).setCell nmg _).drew).drew
  have v1 : Ev DT base w W1 := by
    rw [hW1]
    have a1 := Ev.set (T := DT) (i := i * 2) hg hbg rfl (.string (mk (pl l j).1))
    have g1 := set_at (i := i * 2) hg (.string (mk (pl l j).1))
    have a2 := Ev.set (T := DT) (i := i * 2 + 1) g1 hbg rfl (.int .i64 (pl l j).2)
    have g2 := set_at (i := i * 2 + 1) g1 (.int .i64 (pl l j).2)
    have a3 := Ev.set (T := DT) (i := j * 2) g2 hbg rfl (.string (mk (pl l i).1))
    have g3 := set_at (i := j * 2) g2 (.string (mk (pl l i).1))
    have a4 := Ev.set (T := DT) (i := j * 2 + 1) g3 hbg rfl (.int .i64 (pl l i).2)
    exact (((a1.trans a2).trans a3).trans a4).drew
  have wj : (pl l j).1.length ≤ 281474976710656 := h.wide _ (by rw [pl_in hj]; exact List.getElem_mem hj)
  have wi : (pl l i).1.length ≤ 281474976710656 := h.wide _ (by rw [pl_in hi]; exact List.getElem_mem hi)
  obtain ⟨W2, hu1, m2, t2⟩ := m1.store law9 Try.underlying69 (by unfold maxLen; omega) (key9 _ wj) (val3 i (by omega))
  have T0 := hown.tidy law9
  have hz2 : Maps.size (D.put (lS (pl l j).1) (num i)) = l.length := by rw [size_put T0, if_pos (hsp.some j hj).1, hsp.size]
  have m2' := owns_norm m2
  rw [hz2] at m2'
  obtain ⟨W3, hu2, m3, t3⟩ := m2'.drew.store law9 Try.underlying69 (by unfold maxLen; omega) (key9 _ wi) (val3 j (by omega))
  have hsw := hsp.swp litS T0 h.keys hi hj
  have m3' := owns_norm m3
  rw [hsw.1.size] at m3'
  have o2 : ∀ k, k ≠ bm → W2.heap[k]? = W1.heap[k]? := fun k hk => turned_block t2 k hk
  have o3 : ∀ k, k ≠ bm → W3.heap[k]? = W2.heap[k]? := fun k hk => turned_block t3 k hk
  have hswi : i < (swp l i j).length := by rw [swp_len]; exact hi
  have hswj : j < (swp l i j).length := by rw [swp_len]; exact hj
  obtain ⟨g2, c2, e3, _, hc1⟩ := row_block (l := swp l i j) (v := .slice (some ⟨g, 0, none⟩) l.length c) r1 (by omega)
  have e4 : g2 = g := by simp only [Value.slice.injEq, Option.some.injEq, Addr.mk.injEq] at e3; exact e3.1.1.symm
  rw [e4] at hc1
  have k1 := (hc1 i hswi).1
  rw [← pl_in hswi, swp_at hi hj] at k1
  have k2 := (hc1 j hswj).1
  rw [← pl_in hswj, swp_at hi hj, if_pos rfl] at k2
  have k1' : W1.cell? ⟨g, i * 2, none⟩ = some (.string (mk (pl l j).1)) := by
    by_cases q : i = j
    · subst q; rw [if_pos rfl] at k1; exact k1
    · rw [if_neg q, if_pos rfl] at k1; exact k1
  have b1 : W1.heap[b]? = some (.cells #[.slice (some ⟨g, 0, none⟩) l.length c, .map (some bm)] 73 (0, 0)) := (o1 b nbg).trans h.idx
  have b2 := (o2 b (Ne.symm nmb)).trans b1
  have b3 := (o3 b (Ne.symm nmb)).trans b2
  have H1 := hid_of (show W1.cell? ⟨b, 0, none⟩ = some (.slice (some ⟨g, 0, none⟩) l.length c) ∧ W1.cell? ⟨b, 1, none⟩ = some (.map (some bm)) ∧ W1.cell? ⟨g, i * 2, none⟩ = some (.string (mk (pl l j).1)) ∧ (Instr.mapUpdate 69 (.map (some bm)) (.string (mk (pl l j).1)) (.int .i64 (i : Int))).run Try.prog W1.drew = .ok () W2 from ⟨Lib.cell_of_heap b1 0, Lib.cell_of_heap b1 1, k1', hu1⟩)
  have H2 := hid_of (show W2.cell? ⟨b, 0, none⟩ = some (.slice (some ⟨g, 0, none⟩) l.length c) ∧ W2.cell? ⟨b, 1, none⟩ = some (.map (some bm)) ∧ W2.cell? ⟨g, j * 2, none⟩ = some (.string (mk (pl l i).1)) ∧ (Instr.mapUpdate 69 (.map (some bm)) (.string (mk (pl l i).1)) (.int .i64 (j : Int))).run Try.prog W2.drew = .ok () W3 from ⟨Lib.cell_of_heap b2 0, Lib.cell_of_heap b2 1, (cell_eq (w := W1) (p := ⟨g, j * 2, none⟩) (o2 g (Ne.symm nmg))).trans k2, hu2⟩)
  have HRaw : Calls Try.prog 84 #[ptr b, .int .i64 (i : Int), .int .i64 (j : Int)] w fun e w' => e = .returned (.tuple #[]) ∧ w' = W3 := by
    by_cases q : i = j
    · subst q
      have q0 : (w.setCell ⟨g, i * 2, none⟩ (.string (mk (pl l i).1))).cell? ⟨g, i * 2, none⟩ = some (.string (mk (pl l i).1)) := by
        exact set_same hg i0 _
      have q1 : (w.setCell ⟨g, i * 2 + 1, none⟩ (.int .i64 (pl l i).2)).cell? ⟨g, i * 2 + 1, none⟩ = some (.int .i64 (pl l i).2) := by
        exact set_same hg i1 _
      exact swap_raw1 b g l.length c i w W1 W2 W3 (mk (pl l i).1) (pl l i).2 hi hb (some bm) nbg c0 i0 i1 (fr _) (fr _) q0 q1 (hid_of hW1.symm) H1 H2
    · exact swap_raw b g l.length c i j w W1 W2 W3 (mk (pl l i).1) (mk (pl l j).1) (pl l i).2 (pl l j).2 hi hj hb (some bm) nbg q c0 i0 i1 j0 j1 (fr _) (fr _) (fr _) (fr _) (hid_of hW1.symm) H1 H2
  refine HRaw.mono ?_
  rintro e w' ⟨rfl, rfl⟩
  refine ⟨rfl, ⟨.slice (some ⟨g, 0, none⟩) l.length c, .map (some bm), ⟨b3, h.bb, ?_, .inr ⟨bm, _, rfl, hbm, m3', hsw.1⟩, h.keys.swp hi hj, fun e he => h.wide e ((swp_perm hi hj).mem_iff.1 he)⟩⟩, ?_⟩
  · exact row_later r1 fun k hk => by cases hk; exact (o3 g (Ne.symm nmg)).trans (o2 g (Ne.symm nmg))
  · exact ((v1.drew.trans (Ev.turned t2 hbm rfl)).drew).trans (Ev.turned t3 hbm rfl)
end Go.Proofs.Ytiaggddpoddbcaa.Swap
