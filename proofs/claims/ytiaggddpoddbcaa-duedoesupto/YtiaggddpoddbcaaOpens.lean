/- From what a script of deeds reads as to rows in memory, and how much they hold. -/
import Derived.Test.YtiaggddpoddbcaaLawT
import Derived.Test.YtiaggddpoddbcaaRows
import Derived.ChangeSlices
import Derived.Deep.Slices
namespace Go.Proofs.Ytiaggddpoddbcaa.Opens
open Go.ChangeShapes Go.WideShapes Go.RowKit
open Go.Proofs.Ytiaggddpoddbcaa.Before
open Go.Proofs.Ytiaggddpoddbcaa.TakesL
set_option linter.unusedVariables false
theorem cells3 : Try.prog.cellsOf 3 = 1 := by kernel_rfl
theorem cells9 : Try.prog.cellsOf 9 = 1 := by kernel_rfl
theorem cells32 : Try.prog.cellsOf 32 = 4 := by kernel_rfl
theorem bulk_one {H : Type} (d : DataW H) : 1 ≤ Rows.uptoBulk d := by
  cases d with
  | lit l => cases l <;> simp only [Rows.uptoBulk] <;> omega
  | _ => simp only [Rows.uptoBulk] <;> omega
theorem bulk_len {H : Type} : ∀ l : List (DataW H), l.length ≤ Rows.uptoBulkAll l
  | [] => Nat.zero_le _
  | d :: l => by
    have := bulk_len l
    have := bulk_one d
    rw [List.length_cons, Rows.uptoBulkAll]
    omega
theorem bulk_at {H : Type} : ∀ (l : List (DataW H)) (i : Nat) (h : i < l.length), Rows.uptoBulk l[i] ≤ Rows.uptoBulkAll l
  | d :: l, 0, h => by
    rw [Rows.uptoBulkAll]
    exact Nat.le_add_right _ _
  | d :: l, i + 1, h => by
    have := bulk_at l i (by simpa using h)
    rw [Rows.uptoBulkAll]
    simp only [List.getElem_cons_succ]
    omega
theorem spot_none {w : World} {a : Addr} {v : Value} (h : w.cell? a = some v) : a.spot = none := by
  unfold World.cell? at h
  rcases hh : w.heap[a.block]? with _ | o
  · rw [hh] at h; cases h
  · rw [hh] at h
    cases o with
    | cells c ty fz =>
      cases hs : a.spot with
      | none => rfl
      | some s => simp [hs] at h
    | _ => cases h
theorem add_of {a : Addr} (h : a.spot = none) (k : Nat) : a.add k = ⟨a.block, a.off + k, none⟩ := by
  obtain ⟨b, o, s⟩ := a
  obtain rfl : s = none := h
  exact Addr.add_lit b o k
theorem cells_four {w : World} {a : Addr} {cs : List Value} (h : w.cells? 0 a 4 = some cs) : ∃ v0 v1 v2 v3, cs = [v0, v1, v2, v3] ∧ w.cell? (a.add 0) = some v0 ∧ w.cell? (a.add 1) = some v1 ∧ w.cell? (a.add 2) = some v2 ∧ w.cell? (a.add 3) = some v3 := by
  unfold World.cells? at h
  rw [if_pos (Nat.zero_le _)] at h
  simp only [List.range_succ, List.range_zero, List.nil_append, List.cons_append, List.mapM_cons, List.mapM_nil] at h
  cases h0 : w.cell? (a.add 0) with
  | none => rw [h0] at h; simp at h
  | some v0 =>
    cases h1 : w.cell? (a.add 1) with
    | none => rw [h0, h1] at h; simp at h
    | some v1 =>
      cases h2 : w.cell? (a.add 2) with
      | none => rw [h0, h1, h2] at h; simp at h
      | some v2 =>
        cases h3 : w.cell? (a.add 3) with
        | none => rw [h0, h1, h2, h3] at h; simp at h
        | some v3 =>
          rw [h0, h1, h2, h3] at h; simp at h; exact ⟨v0, v1, v2, v3, h.symm, rfl, rfl, rfl, rfl⟩
theorem four_of {α : Type} (l : List α) (h : l.length = 4) : ∃ a0 a1 a2 a3, l = [a0, a1, a2, a3] := by
  match l, h with
  | [a0, a1, a2, a3], _ => exact ⟨a0, a1, a2, a3, rfl⟩
instance : Inhabited Dd := ⟨⟨0, [], 0, 0⟩⟩
section
variable {H : Type} {enc : TypeId × Value → H} {w : World} {fuel : Nat} {c : Value} {x : DataW H × List MemPlace}
theorem open_deeds (h : DataW.trod enc Try.prog w 0 (fun _ => true) true fuel 22 [c] = some x) : ∃ (a : Option Addr) (cap : Nat) (l : List Dd), c = .slice a l.length cap ∧ DSl w a l ∧ l.length ≤ Rows.uptoBulk x.1 ∧ ∀ y ∈ l, y.key.length ≤ Rows.uptoBulk x.1 := by
  rcases DataW.trod_slice Try.underlying22 h with ⟨e3, rfl⟩ | ⟨a, len, cap, elems, rest, m, rfl, e3, rfl, -, hlc, hcm, hel, hat, -, -⟩
  · cases e3; exact ⟨none, 0, [], rfl, fun i hi => absurd hi (by simp), Nat.zero_le _, fun y hy => by cases hy⟩
  · cases e3
    have hch : ∀ i, i < len → ∃ o : Dd, ∃ hi : i < elems.length, w.cell? ((a.add (i * 4)).add 0) = some (.int .i64 o.k) ∧ w.cell? ((a.add (i * 4)).add 1) = some (.string (mk o.key)) ∧ w.cell? ((a.add (i * 4)).add 2) = some (.int .i64 o.n) ∧ w.cell? ((a.add (i * 4)).add 3) = some (.int .i64 o.m) ∧ o.key.length ≤ Rows.uptoBulk elems[i].1 := by
      intro i hi
      have hi2 : i < elems.length := by omega
      have h1 := hat i hi
      rw [List.getElem?_eq_getElem hi2, cells32] at h1
      obtain ⟨cs', h2, h3⟩ := Option.bind_eq_some_iff.1 h1
      obtain ⟨v0, v1, v2, v3, rfl, q0, q1, q2, q3⟩ := cells_four h2
      obtain ⟨xs, n, -, hx, hl, hlen, hfd⟩ := DataW.trod_struct Try.underlying32 h3
      obtain ⟨y0, y1, y2, y3, rfl⟩ := four_of xs hlen
      have g0 : DataW.trod enc Try.prog w 0 (fun _ => true) true n 3 (([v0, v1, v2, v3].drop 0).take (Try.prog.cellsOf 3)) = some y0 := hfd 0 _ rfl
      rw [cells3] at g0
      have g1 : DataW.trod enc Try.prog w 0 (fun _ => true) true n 9 (([v0, v1, v2, v3].drop 1).take (Try.prog.cellsOf 9)) = some y1 := hfd 1 _ rfl
      rw [cells9] at g1
      have g2 : DataW.trod enc Try.prog w 0 (fun _ => true) true n 3 (([v0, v1, v2, v3].drop 2).take (Try.prog.cellsOf 3)) = some y2 := hfd 2 _ rfl
      rw [cells3] at g2
      have g3 : DataW.trod enc Try.prog w 0 (fun _ => true) true n 3 (([v0, v1, v2, v3].drop 3).take (Try.prog.cellsOf 3)) = some y3 := hfd 3 _ rfl
      rw [cells3] at g3
      obtain ⟨k0, e0, -, -⟩ := DataW.trod_int Try.underlying3 (g0 : DataW.trod enc Try.prog w 0 (fun _ => true) true n 3 [v0] = some y0)
      obtain ⟨s1, e1, x1, -⟩ := DataW.trod_string Try.underlying9 (g1 : DataW.trod enc Try.prog w 0 (fun _ => true) true n 9 [v1] = some y1)
      obtain ⟨k2, e2, -, -⟩ := DataW.trod_int Try.underlying3 (g2 : DataW.trod enc Try.prog w 0 (fun _ => true) true n 3 [v2] = some y2)
      obtain ⟨k3, e3, -, -⟩ := DataW.trod_int Try.underlying3 (g3 : DataW.trod enc Try.prog w 0 (fun _ => true) true n 3 [v3] = some y3)
      cases e0; cases e1; cases e2; cases e3
      refine ⟨⟨k0, s1.data.toList, k2, k3⟩, hi2, q0, q1, q2, q3, ?_⟩
      rw [hx]
      subst x1
      simp only [Rows.uptoBulk, Rows.uptoBulkAll, List.map_cons, List.map_nil]
      omega
    obtain ⟨F, hF⟩ := Deep.choose_lt hch
    refine ⟨some a, cap, (List.range len).map F, by simp, ?_, ?_, ?_⟩
    · intro k hk
      have hk' : k < len := by simpa using hk
      have hs : a.spot = none := by
        obtain ⟨_, h1, _⟩ := hF 0 (by omega)
        have := spot_none h1
        simpa [Addr.add] using this
      obtain ⟨_, h0, h1, h2, h3, _⟩ := hF k hk'
      rw [add_of hs, Addr.add_lit] at h0 h1 h2 h3
      refine ⟨a.block, a.off, by obtain ⟨b, o, s⟩ := a; obtain rfl : s = none := hs; rfl, ?_⟩
      simp only [List.getElem_map, List.getElem_range]
      exact ⟨h0, h1, h2, h3⟩
    · simp only [Rows.uptoBulk]
      have h1 := bulk_len (elems.map (·.1))
      rw [List.length_map, hel] at h1
      simp only [List.length_map, List.length_range]
      omega
    · intro y hy
      obtain ⟨i, hi, rfl⟩ := List.mem_map.1 hy
      obtain ⟨hi2, _, _, _, _, h⟩ := hF i (List.mem_range.1 hi)
      have h2 := bulk_at (elems.map (·.1)) i (by rw [List.length_map]; exact hi2)
      rw [List.getElem_map] at h2
      simp only [Rows.uptoBulk]
      omega
end
end Go.Proofs.Ytiaggddpoddbcaa.Opens
