/- Find of the document. -/
import Derived.Test.YtgmnmcaclpfknaaFindC
import Derived.Deep.RegionHeld3
namespace Go.Proofs.Ytgmnmcaclpfknaa.RFind
open Go.RowKit
open Go.Proofs.Ytgmnmcaclpfknaa.Tab
open Go.Proofs.Ytgmnmcaclpfknaa.Base
open Go.Proofs.Ytgmnmcaclpfknaa.Low
open Go.Proofs.Ytgmnmcaclpfknaa.FindP
open Go.Proofs.Ytgmnmcaclpfknaa.FindC
open Go.Proofs.Ytgmnmcaclpfknaa.RowsL
attribute [local go_sem] Oper.semAt_some
set_option linter.unusedVariables false
set_option linter.unusedSimpArgs false
theorem flat7 (f : Sc → List Value) (h : ∀ r, (f r).length = 7) : ∀ (l : List Sc) (k j : Nat) (hk : k < l.length), j < 7 → (l.flatMap f)[k * 7 + j]? = (f l[k])[j]?
  | [], k, j, hk, _ => by simp at hk
  | r :: l, 0, j, hk, hj => by
    rw [List.flatMap_cons, List.getElem?_append_left (by rw [h]; omega)]
    simp
  | r :: l, k + 1, j, hk, hj => by
    rw [List.flatMap_cons, List.getElem?_append_right (by rw [h]; omega), h, show (k + 1) * 7 + j - 7 = k * 7 + j by omega]
    exact flat7 f h l k j (by simpa using hk) hj
theorem cells_at (k j : Nat) (hk : k < docRows.length) (hj : j < 7) : docCells[k * 7 + j]? = (cellsS docRows[k])[j]? := by
  unfold docCells
  rw [List.getElem?_toArray, List.flatMap_map]
  exact flat7 (fun r => (valS r).cells.toList) (fun r => rfl) docRows k j hk hj
theorem doc_cells {W : World} {g : Nat} (h : W.heap[g]? = some (.cells docCells 23 (0, 0))) (k : Nat) (hk : k < docRows.length) :
    W.cell? ⟨g, k * 7, none⟩ = some (.string (mk docRows[k].name)) ∧ W.cell? ⟨g, k * 7 + 1, none⟩ = some (.int .i64 docRows[k].arity) ∧ W.cell? ⟨g, k * 7 + 2, none⟩ = some (.bool docRows[k].wr) ∧ W.cell? ⟨g, k * 7 + 3, none⟩ = some (.bool docRows[k].ct) ∧ W.cell? ⟨g, k * 7 + 4, none⟩ = some (.int .i64 docRows[k].first) ∧ W.cell? ⟨g, k * 7 + 5, none⟩ = some (.int .i64 docRows[k].last) ∧ W.cell? ⟨g, k * 7 + 6, none⟩ = some (.int .i64 docRows[k].step) := by
  refine ⟨?_, ?_, ?_, ?_, ?_, ?_, ?_⟩
  · rw [Lib.cell_of_heap h]; exact cells_at k 0 hk (by omega)
  all_goals (rw [Lib.cell_of_heap h, cells_at k _ hk (by omega)]; rfl)
theorem fnd_doc (s : Tab.Bs) : fnd s = match findS s with
    | some r => (r, true)
    | none => (noSc, false) := by
  rw [← find_same]
  unfold fnd
  cases findR s <;> rfl
theorem rfnd_no {s : Tab.Bs} (h : ∀ x ∈ docRows, x.name ≠ s) : fnd s = (noSc, false) := by
  rw [fnd_doc]
  have : findS s = none := by
    unfold findS
    rw [List.find?_eq_none]
    intro x hx e
    exact h x hx (eq_of_beq e)
  rw [this]
theorem rfnd_yes {s : Tab.Bs} {k : Nat} (hk : k < docRows.length) (hx : docRows[k].name = s) (h : ∀ y ∈ docRows.take k, y.name ≠ s) : fnd s = (docRows[k], true) := by
  rw [fnd_doc]
  have : findS s = some docRows[k] := by
    have e : docRows = docRows.take k ++ docRows[k] :: docRows.drop (k + 1) := by rw [← List.drop_eq_getElem_cons hk, List.take_append_drop]
    have q : docRows.find? (fun r => r.name == s) = (docRows.take k ++ docRows[k] :: docRows.drop (k + 1)).find? (fun r => r.name == s) := congrArg _ e
    unfold findS
    rw [q, List.find?_append, List.find?_eq_none.2 (fun y hy q => h y hy (eq_of_beq q))]
    show List.find? (fun r => r.name == s) (docRows[k] :: docRows.drop (k + 1)) = _
    have hp : (docRows[k].name == s) = true := by rw [hx]; exact beq_self_eq_true s
    rw [List.find?_cons, hp]
  rw [this]
theorem res_rfind {W : World} {T : Nat} {s : Tab.Bs} {r : Sc} {b : Bool} {tm : Array Value} (h1 : W.heap[T]? = some (.cells (cellsS r).toArray 23 (0, 0))) (hv : fnd s = (r, b))
    (e2 : tm[2]?.getD undef = .pointer (some ⟨T, 0, none⟩) := by rfl) (e3 : tm[3]?.getD undef = .bool b := by rfl) : (results Try.f9 tm).run Try.prog W = .ok (findV s) W := by
  have c0 : W.cell? ⟨T, 0, none⟩ = some (.string (mk r.name)) := Lib.cell_of_heap h1 0
  have c1 : W.cell? ⟨T, 1, none⟩ = some (.int .i64 r.arity) := Lib.cell_of_heap h1 1
  have c2 : W.cell? ⟨T, 2, none⟩ = some (.bool r.wr) := Lib.cell_of_heap h1 2
  have c3 : W.cell? ⟨T, 3, none⟩ = some (.bool r.ct) := Lib.cell_of_heap h1 3
  have c4 : W.cell? ⟨T, 4, none⟩ = some (.int .i64 r.first) := Lib.cell_of_heap h1 4
  have c5 : W.cell? ⟨T, 5, none⟩ = some (.int .i64 r.last) := Lib.cell_of_heap h1 5
  have c6 : W.cell? ⟨T, 6, none⟩ = some (.int .i64 r.step) := Lib.cell_of_heap h1 6
  unfold findV
  rw [hv]
  unfold valS cellsS
  simp [results, Try.results9, go_sem, e2, e3, c0, c1, c2, c3, c4, c5, c6]
/- what the loop keeps: the result's box, the table -/
structure RI (w : World) (W : World) : Prop where
  bel : Below w.heap.size w W
  t : W.heap[w.heap.size]? = some (.cells (cellsS noSc).toArray 23 (0, 0))
  g : W.heap[w.heap.size + 1]? = some (.cells docCells 23 (0, 0))
theorem RI.below {w W W' : World} (h : RI w W) (b : Below W.heap.size W W') : RI w W' := ⟨h.bel.trans (b.mono h.bel.size), (b.block _ (lt_of h.t)).trans h.t, (b.block _ (lt_of h.g)).trans h.g⟩
set_option maxHeartbeats 4000000 in
set_option maxRecDepth 100000 in
theorem rfind_call (l : Tab.Bs) (w : World) (hl : l.length < 9223372036854775808) : Calls Try.prog 9 #[.string (mk l)] w fun e w' => e = .returned (findV (l.map low)) ∧ Below w.heap.size w w' := by
  have HL := hid_of (fun w => rlower_call l w hl)
  obtain ⟨s, hs⟩ : ∃ s, s = l.map low := ⟨_, rfl⟩
  rw [← hs] at HL ⊢
  clear hl hs
  generalize mk l = L0 at *
  have HR := hid_of (rows_call (w.alloc (.cells #[.string ⟨#[]⟩, .int .i64 0, .bool false, .bool false, .int .i64 0, .int .i64 0, .int .i64 0] 23)))
  go_enter Try.func9, Try.ntmps9
  go_wp2_with fail
  refine HR.out.mono ?_
  rintro e w1 ⟨rfl, hw1⟩
  have hI : RI w w1 := by
    have a1 : Below w.heap.size w (w.alloc (.cells #[.string ⟨#[]⟩, .int .i64 0, .bool false, .bool false, .int .i64 0, .int .i64 0, .int .i64 0] 23)) := (Below.refl _ w).alloc (Nat.le_refl _) _
    rw [hw1]
    refine ⟨a1.alloc a1.size _, ?_, ?_⟩
    · rw [Below.heap_alloc _ _ _ (by simp)]; exact heap_alloc_new w _
    · have := heap_alloc_new (w.alloc (.cells #[.string ⟨#[]⟩, .int .i64 0, .bool false, .bool false, .int .i64 0, .int .i64 0, .int .i64 0] 23)) (.cells docCells 23)
      simpa using this
  have HI := hid_of hI
  have es : (w.alloc (.cells #[.string ⟨#[]⟩, .int .i64 0, .bool false, .bool false, .int .i64 0, .int .i64 0, .int .i64 0] 23)).heap.size = w.heap.size + 1 := by simp
  rw [es]
  clear hI hw1 es HR
  obtain ⟨T, hT⟩ : ∃ T, T = w.heap.size := ⟨_, rfl⟩
  have HT := hid_of hT
  rw [← hT]
  clear hT
  go_wp2_with fail
  go_loopg [5] 118 (fun gk s5 wx => ∃ k : Nat, k ≤ 118 ∧ 118 ≤ k + gk ∧ s5 = .int .i64 (k : Int) ∧ Hid (RI w wx ∧ ∀ y ∈ docRows.take k, y.name ≠ s))
  case atStart => exact ⟨0, by omega, by omega, rfl, hid_of ⟨HI.out, by simp⟩⟩
  case round =>
    obtain ⟨k, hk, hgk, rfl, I⟩ := hrel
    clear HI
    by_cases hlt : k < 118
    · obtain ⟨g', rfl⟩ : ∃ g', gk = g' + 1 := ⟨gk - 1, by omega⟩
      have hkl : k < docRows.length := by rw [doc_len]; exact hlt
      obtain ⟨x, hx⟩ : ∃ x, x = docRows[k] := ⟨_, rfl⟩
      have HC : Hid (∀ V, Below wr.heap.size wr V → V.cell? ⟨T + 1, k * 7, none⟩ = some (.string (mk x.name))) := hid_of fun V b => by
        rw [hx, HT.out]; exact (doc_cells (I.out.1.below b).g k hkl).1
      have HC2 : Hid (∀ V, Below wr.heap.size wr V → V.cell? ⟨T + 1, k * 7, none⟩ = some (.string (mk x.name)) ∧ V.cell? ⟨T + 1, k * 7 + 1, none⟩ = some (.int .i64 x.arity) ∧ V.cell? ⟨T + 1, k * 7 + 2, none⟩ = some (.bool x.wr) ∧ V.cell? ⟨T + 1, k * 7 + 3, none⟩ = some (.bool x.ct) ∧ V.cell? ⟨T + 1, k * 7 + 4, none⟩ = some (.int .i64 x.first) ∧ V.cell? ⟨T + 1, k * 7 + 5, none⟩ = some (.int .i64 x.last) ∧ V.cell? ⟨T + 1, k * 7 + 6, none⟩ = some (.int .i64 x.step)) := hid_of fun V b => by
        rw [hx, HT.out]; exact doc_cells (I.out.1.below b).g k hkl
      have c0 := HC.out wr (Below.refl _ _)
      have e2 : IntKind.i64.wrap ((k : Int) + 1) = (k : Int) + 1 := IntWalk.i64_in _ (by omega)
      have HX := hid_of hx
      have HL2 := hid_of (HL.out wr)
      have g1 : (k : Int) < 118 := by omega
      clear hx
      by_cases hn : x.name = s
      · have hc := str_yes s
        have HN := hid_of hn
        rw [hn] at c0 HC HC2
        obtain ⟨MS, HMS⟩ : ∃ MS, Hid (MS = mk s) := ⟨_, hid_of rfl⟩
        rw [← HMS.out] at c0 HC HC2 hc HL HL2
        clear hn
        go_wp2_with fail
        go_region_held3 (fun V => V.cell? ⟨T + 1, k * 7, none⟩ = some (.string MS)) (first | exact c0 | exact HC.out _ b3) (first
          | (go_at_call 11; refine (HL.out _).mono ?_; rintro e w3 ⟨rfl, b4⟩; have b3 : Below wr.heap.size wr w3 := ⟨b4.os, b4.tape, b4.output, b4.size, b4.block⟩; clear b4))
        obtain ⟨d0, d1, d2, d3, d4, d5, d6⟩ := HC2.out w3 b3
        have I3 := I.out.1.below b3
        have ht := I3.t
        rw [← HT.out] at ht
        have t0 : w3.cell? ⟨T, 0, none⟩ = some (.string ⟨#[]⟩) := Lib.cell_of_heap ht 0
        have f0 : w3.frozen? ⟨T, 0, none⟩ = false := Lib.frozen_of_heap ht 0
        have t1 : w3.cell? ⟨T, 1, none⟩ = some (.int .i64 0) := Lib.cell_of_heap ht 1
        have f1 : w3.frozen? ⟨T, 1, none⟩ = false := Lib.frozen_of_heap ht 1
        have t2 : w3.cell? ⟨T, 2, none⟩ = some (.bool false) := Lib.cell_of_heap ht 2
        have f2 : w3.frozen? ⟨T, 2, none⟩ = false := Lib.frozen_of_heap ht 2
        have t3 : w3.cell? ⟨T, 3, none⟩ = some (.bool false) := Lib.cell_of_heap ht 3
        have f3 : w3.frozen? ⟨T, 3, none⟩ = false := Lib.frozen_of_heap ht 3
        have t4 : w3.cell? ⟨T, 4, none⟩ = some (.int .i64 0) := Lib.cell_of_heap ht 4
        have f4 : w3.frozen? ⟨T, 4, none⟩ = false := Lib.frozen_of_heap ht 4
        have t5 : w3.cell? ⟨T, 5, none⟩ = some (.int .i64 0) := Lib.cell_of_heap ht 5
        have f5 : w3.frozen? ⟨T, 5, none⟩ = false := Lib.frozen_of_heap ht 5
        have t6 : w3.cell? ⟨T, 6, none⟩ = some (.int .i64 0) := Lib.cell_of_heap ht 6
        have f6 : w3.frozen? ⟨T, 6, none⟩ = false := Lib.frozen_of_heap ht 6
        have HI3 := hid_of I3
        have HTT := hid_of ht
        clear I3 ht b3
        go_wp2_with fail
        have hB : Below w.heap.size w (set7 w3 T (.string MS) (.int .i64 x.arity) (.bool x.wr) (.bool x.ct) (.int .i64 x.first) (.int .i64 x.last) (.int .i64 x.step)) := set7_below HI3.out.bel (by rw [HT.out]; exact Nat.le_refl _) _ _ _ _ _ _ _
        have hfin := set7_at HTT.out rfl (.string MS) (.int .i64 x.arity) (.bool x.wr) (.bool x.ct) (.int .i64 x.first) (.int .i64 x.last) (.int .i64 x.step)
        refine ⟨rfl, findV s, ?_, rfl, hB⟩
        refine res_rfind (r := x) (b := true) ?_ ?_
        · rw [hfin]; unfold cellsS; rw [HN.out, HMS.out]
        · rw [HX.out]; exact rfnd_yes hkl (by rw [← HX.out]; exact HN.out) I.out.2
      · have hc := str_no hn
        have HN := hid_of hn
        obtain ⟨X0, HX0⟩ : ∃ X0, Hid (X0 = mk x.name) := ⟨_, hid_of rfl⟩
        rw [← HX0.out] at c0 HC hc
        generalize mk s = MS at *
        clear hn HC2
        go_wp2_with fail
        go_region_held3 (fun V => V.cell? ⟨T + 1, k * 7, none⟩ = some (.string X0)) (first | exact c0 | exact HC.out _ b3) (first
          | (go_at_call 11; refine (HL.out _).mono ?_; rintro e w3 ⟨rfl, b4⟩; have b3 : Below wr.heap.size wr w3 := ⟨b4.os, b4.tape, b4.output, b4.size, b4.block⟩; clear b4))
        have HI3 := hid_of (I.out.1.below b3)
        clear b3
        go_wp2_with fail
        go_roundg g'
        case measure => omega
        case rel => exact ⟨k + 1, by omega, by omega, by simp, hid_of ⟨HI3.out, fun y hy => by
          rw [List.take_succ_eq_append_getElem hkl] at hy
          rcases List.mem_append.1 hy with q | q
          · exact I.out.2 y q
          · rw [List.mem_singleton.1 q, ← HX.out]; exact HN.out⟩⟩
    · obtain rfl : k = 118 := by omega
      have I3 := I.out.1
      have ht := I3.t
      rw [← HT.out] at ht
      have HN : Hid (fnd s = (noSc, false)) := hid_of (rfnd_no fun y hy => I.out.2 y (by rw [List.take_of_length_le (by rw [doc_len]; exact Nat.le_refl _)]; exact hy))
      have t0 : wr.cell? ⟨T, 0, none⟩ = some (.string ⟨#[]⟩) := Lib.cell_of_heap ht 0
      have f0 : wr.frozen? ⟨T, 0, none⟩ = false := Lib.frozen_of_heap ht 0
      have t1 : wr.cell? ⟨T, 1, none⟩ = some (.int .i64 0) := Lib.cell_of_heap ht 1
      have f1 : wr.frozen? ⟨T, 1, none⟩ = false := Lib.frozen_of_heap ht 1
      have t2 : wr.cell? ⟨T, 2, none⟩ = some (.bool false) := Lib.cell_of_heap ht 2
      have f2 : wr.frozen? ⟨T, 2, none⟩ = false := Lib.frozen_of_heap ht 2
      have t3 : wr.cell? ⟨T, 3, none⟩ = some (.bool false) := Lib.cell_of_heap ht 3
      have f3 : wr.frozen? ⟨T, 3, none⟩ = false := Lib.frozen_of_heap ht 3
      have t4 : wr.cell? ⟨T, 4, none⟩ = some (.int .i64 0) := Lib.cell_of_heap ht 4
      have f4 : wr.frozen? ⟨T, 4, none⟩ = false := Lib.frozen_of_heap ht 4
      have t5 : wr.cell? ⟨T, 5, none⟩ = some (.int .i64 0) := Lib.cell_of_heap ht 5
      have f5 : wr.frozen? ⟨T, 5, none⟩ = false := Lib.frozen_of_heap ht 5
      have t6 : wr.cell? ⟨T, 6, none⟩ = some (.int .i64 0) := Lib.cell_of_heap ht 6
      have f6 : wr.frozen? ⟨T, 6, none⟩ = false := Lib.frozen_of_heap ht 6
      have HI3 := hid_of I3
      have HTT := hid_of ht
      clear I3 ht
      go_wp2_with fail
      have hB := set7_below (T := T) HI3.out.bel (by rw [HT.out]; exact Nat.le_refl _) (.string ⟨#[]⟩) (.int .i64 0) (.bool false) (.bool false) (.int .i64 0) (.int .i64 0) (.int .i64 0)
      have hfin := set7_at HTT.out rfl (.string ⟨#[]⟩) (.int .i64 0) (.bool false) (.bool false) (.int .i64 0) (.int .i64 0) (.int .i64 0)
      refine ⟨rfl, findV s, ?_, rfl, hB⟩
      exact res_rfind (r := noSc) (b := false) hfin HN.out
end Go.Proofs.Ytgmnmcaclpfknaa.RFind
