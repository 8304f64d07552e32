/- From what a list of fields, and a script, of a bounded bulk read as to their cells. -/
import Derived.Test.YtolihcgpnoacaaaDoorOpenF
import Derived.Test.YtolihcgpnoacaaaDoorPlays
namespace Go.Proofs.YtolihcgpnoacaaaDoor.OpenO
open Go.ChangeShapes Go.WideShapes Go.RowKit
open Go.Proofs.YtolihcgpnoacaaaDoor.DictMath
open Go.Proofs.YtolihcgpnoacaaaDoor.Base
open Go.Proofs.YtolihcgpnoacaaaDoor.Back
open Go.Proofs.YtolihcgpnoacaaaDoor.OpenF
open Go.Proofs.YtolihcgpnoacaaaDoor.Plays
set_option linter.unusedVariables false

theorem elem_bulk {H : Type} : ∀ (l : List (DataW H)) (i : Nat) (h : i < l.length), Rows.uptoBulk l[i] ≤ Rows.uptoBulkAll l
  | d :: l, 0, _ => by rw [Rows.uptoBulkAll]; exact Nat.le_add_right _ _
  | d :: l, i + 1, h => by
    have := elem_bulk l i (by simpa using h)
    rw [Rows.uptoBulkAll]
    exact Nat.le_trans this (Nat.le_add_left _ _)
theorem bulk_len {H : Type} : ∀ l : List (DataW H), l.length ≤ Rows.uptoBulkAll l
  | [] => Nat.zero_le _
  | d :: l => by
    have := bulk_len l
    have := bulk_one d
    rw [Rows.uptoBulkAll, List.length_cons]; omega
theorem cells3 : Tryd.prog.cellsOf 3 = 1 := by kernel_rfl
theorem cells31 : Tryd.prog.cellsOf 31 = 4 := by kernel_rfl
theorem cells_four {w : World} {a : Addr} {cs : List Value} (h : w.cells? 0 a 4 = some cs) : ∃ v0 v1 v2 v3, cs = [v0, v1, v2, v3] ∧ w.cell? (a.add 0) = some v0 ∧ w.cell? (a.add 1) = some v1 ∧ w.cell? (a.add 2) = some v2 ∧ w.cell? (a.add 3) = some v3 := by
  unfold World.cells? at h
  rw [if_pos (Nat.zero_le _)] at h
  simp only [List.range_succ, List.range_zero, List.nil_append, List.cons_append, List.mapM_cons, List.mapM_nil] at h
  cases h0 : w.cell? (a.add 0) with
  | none => rw [h0] at h; simp at h
  | some v0 =>
    cases h1 : w.cell? (a.add 1) with
    | none => rw [h0, h1] at h; simp at h
    | some v1 =>
      cases h2 : w.cell? (a.add 2) with
      | none => rw [h0, h1, h2] at h; simp at h
      | some v2 =>
        cases h3 : w.cell? (a.add 3) with
        | none => rw [h0, h1, h2, h3] at h; simp at h
        | some v3 => rw [h0, h1, h2, h3] at h; simp at h; exact ⟨v0, v1, v2, v3, h.symm, rfl, rfl, rfl, rfl⟩
theorem four_of {α : Type} (l : List α) (h : l.length = 4) : ∃ a0 a1 a2 a3, l = [a0, a1, a2, a3] := by
  match l, h with
  | [a0, a1, a2, a3], _ => exact ⟨a0, a1, a2, a3, rfl⟩
theorem wf_i64 {n : Int} (h : (Lit.int .i64 n).wf = true) : -9223372036854775808 ≤ n ∧ n ≤ 9223372036854775807 := by
  simp only [Lit.wf, IntKind.min, IntKind.max, IntKind.signed, IntKind.bits, Bool.and_eq_true] at h
  simp at h
  omega
section
variable {H : Type} {enc : TypeId × Value → H} {w : World} {fuel : Nat} {c : Value} {x : DataW H × List MemPlace}
theorem open_fieldsU (h : DataW.trod enc Tryd.prog w 0 (fun _ => true) true fuel 22 [c] = some x) (hx : Rows.uptoBulk x.1 ≤ 1048576) : ∃ l : FL, Gv w c l ∧ (∃ a k, c = .slice a l.length k ∧ l.length ≤ k) ∧ l.length ≤ 1048576 := by
  rcases DataW.trod_slice Tryd.underlying22 h with ⟨e3, rfl⟩ | ⟨a, len, cap, elems, rest, m, rfl, e3, rfl, -, hlc, hcm, hel, hat, -, -⟩
  · cases e3; exact ⟨[], ⟨⟨none, 0, rfl, Or.inl rfl⟩, Nat.zero_le _, fun x hx => by cases hx⟩, ⟨none, 0, rfl, Nat.le_refl _⟩, Nat.zero_le _⟩
  · cases e3
    have hch : ∀ i, i < len → ∃ o : Bs × Bs, ∃ hi : i < elems.length, w.cell? ((a.add (i * 2)).add 0) = some (.string (mk o.1)) ∧ w.cell? ((a.add (i * 2)).add 1) = some (.string (mk o.2)) ∧ (o.1.length ≤ 140737488351232 ∧ o.2.length ≤ 140737488351232) ∧ o.1.length + o.2.length + 1 ≤ Rows.uptoBulk (elems[i]).1 := by
      intro i hi
      have hi2 : i < elems.length := by omega
      have h1 := hat i hi
      rw [List.getElem?_eq_getElem hi2, cells52] at h1
      obtain ⟨cs', h2, h3⟩ := Option.bind_eq_some_iff.1 h1
      obtain ⟨v0, v1, rfl, q0, q1⟩ := cells_two h2
      obtain ⟨xs, n, -, hxs, hl, hlen, hfd⟩ := DataW.trod_struct Tryd.underlying52 h3
      obtain ⟨y0, y1, rfl⟩ := two_of xs hlen
      have g0 : DataW.trod enc Tryd.prog w 0 (fun _ => true) true n 9 (([v0, v1].drop 0).take (Tryd.prog.cellsOf 9)) = some y0 := hfd 0 _ rfl
      rw [cells9] at g0
      have g1 : DataW.trod enc Tryd.prog w 0 (fun _ => true) true n 9 (([v0, v1].drop 1).take (Tryd.prog.cellsOf 9)) = some y1 := hfd 1 _ rfl
      rw [cells9] at g1
      obtain ⟨t0, e0, d0, _⟩ := DataW.trod_string Tryd.underlying9 (g0 : DataW.trod enc Tryd.prog w 0 (fun _ => true) true n 9 [v0] = some y0)
      obtain ⟨t1, e1, d1, _⟩ := DataW.trod_string Tryd.underlying9 (g1 : DataW.trod enc Tryd.prog w 0 (fun _ => true) true n 9 [v1] = some y1)
      cases e0; cases e1
      have hb3 := elem_bulk (elems.map (·.1)) i (by simpa using hi2)
      rw [List.getElem_map] at hb3
      have hb4 : Rows.uptoBulk (elems[i]).1 ≤ 1048576 := by simp only [Rows.uptoBulk] at hx; omega
      have hb5 : (bs t0).length + (bs t1).length + 1 ≤ Rows.uptoBulk (elems[i]).1 := by
        rw [hxs]
        simp only [Rows.uptoBulk, Rows.uptoBulkAll, List.map_cons, List.map_nil, d0, d1]
        unfold bs
        omega
      exact ⟨(bs t0, bs t1), hi2, by rw [q0, mk_bs], by rw [q1, mk_bs], ⟨by show (bs t0).length ≤ _; omega, by show (bs t1).length ≤ _; omega⟩, hb5⟩
    obtain ⟨F, hF⟩ := Deep.choose_lt hch
    have hln : len ≤ 1048576 := by
      have hl := bulk_len (elems.map (·.1))
      rw [List.length_map, hel] at hl
      simp only [Rows.uptoBulk] at hx
      omega
    refine ⟨(List.range len).map F, ⟨⟨some a, cap, by simp, ?_⟩, ?_, ?_⟩, ⟨some a, cap, by simp, by simpa using hlc⟩, by simpa using hln⟩
    · rcases Nat.eq_zero_or_pos len with h0 | hp
      · left; rw [h0]; rfl
      · right
        have hs : a.spot = none := by
          obtain ⟨_, h1, _⟩ := hF 0 hp
          have := spot_none h1
          simpa [Addr.add] using this
        refine ⟨a.block, a.off, by obtain ⟨b, o, s⟩ := a; obtain rfl : s = none := hs; rfl, fun k hk => ?_⟩
        have hk' : k < len := by simpa using hk
        obtain ⟨_, h0, h1, _⟩ := hF k hk'
        rw [add_of hs, Addr.add_lit] at h0 h1
        simp only [List.getElem_map, List.getElem_range]
        exact ⟨h0, h1⟩
    · simp; omega
    · intro y hy
      obtain ⟨i, hi, rfl⟩ := List.mem_map.1 hy
      obtain ⟨_, _, _, h, _⟩ := hF i (List.mem_range.1 hi)
      exact h
theorem open_ops (h : DataW.trod enc Tryd.prog w 0 (fun _ => true) true fuel 23 [c] = some x) (hx : Rows.uptoBulk x.1 ≤ 1048576) : ∃ ops : List OpD, OS w c ops ∧ (∀ o ∈ ops, opOk o) ∧ ops.length ≤ 1048576 := by
  rcases DataW.trod_slice Tryd.underlying23 h with ⟨e3, rfl⟩ | ⟨a, len, cap, elems, rest, m, rfl, e3, rfl, -, hlc, hcm, hel, hat, -, -⟩
  · cases e3; exact ⟨[], ⟨none, 0, rfl, Or.inl rfl⟩, (fun x hx => by cases hx), Nat.zero_le _⟩
  · cases e3
    have hch : ∀ i, i < len → ∃ o : OpD, ∃ hi : i < elems.length, w.cell? ((a.add (i * 4)).add 0) = some (.int .i64 o.K) ∧ w.cell? ((a.add (i * 4)).add 1) = some (.string (mk o.k)) ∧ w.cell? ((a.add (i * 4)).add 2) = some (.string (mk o.u)) ∧ w.cell? ((a.add (i * 4)).add 3) = some (.int .i64 o.N) ∧ opOk o := by
      intro i hi
      have hi2 : i < elems.length := by omega
      have h1 := hat i hi
      rw [List.getElem?_eq_getElem hi2, cells31] at h1
      obtain ⟨cs', h2, h3⟩ := Option.bind_eq_some_iff.1 h1
      obtain ⟨v0, v1, v2, v3, rfl, q0, q1, q2, q3⟩ := cells_four h2
      obtain ⟨xs, n, -, hxs, hl, hlen, hfd⟩ := DataW.trod_struct Tryd.underlying31 h3
      obtain ⟨y0, y1, y2, y3, rfl⟩ := four_of xs hlen
      have g0 : DataW.trod enc Tryd.prog w 0 (fun _ => true) true n 3 (([v0, v1, v2, v3].drop 0).take (Tryd.prog.cellsOf 3)) = some y0 := hfd 0 _ rfl
      rw [cells3] at g0
      have g1 : DataW.trod enc Tryd.prog w 0 (fun _ => true) true n 9 (([v0, v1, v2, v3].drop 1).take (Tryd.prog.cellsOf 9)) = some y1 := hfd 1 _ rfl
      rw [cells9] at g1
      have g2 : DataW.trod enc Tryd.prog w 0 (fun _ => true) true n 9 (([v0, v1, v2, v3].drop 2).take (Tryd.prog.cellsOf 9)) = some y2 := hfd 2 _ rfl
      rw [cells9] at g2
      have g3 : DataW.trod enc Tryd.prog w 0 (fun _ => true) true n 3 (([v0, v1, v2, v3].drop 3).take (Tryd.prog.cellsOf 3)) = some y3 := hfd 3 _ rfl
      rw [cells3] at g3
      obtain ⟨k0, e0, -, -⟩ := DataW.trod_int Tryd.underlying3 (g0 : DataW.trod enc Tryd.prog w 0 (fun _ => true) true n 3 [v0] = some y0)
      obtain ⟨t1, e1, d1, _⟩ := DataW.trod_string Tryd.underlying9 (g1 : DataW.trod enc Tryd.prog w 0 (fun _ => true) true n 9 [v1] = some y1)
      obtain ⟨t2, e2, d2, _⟩ := DataW.trod_string Tryd.underlying9 (g2 : DataW.trod enc Tryd.prog w 0 (fun _ => true) true n 9 [v2] = some y2)
      obtain ⟨k3, e3, d3, f3⟩ := DataW.trod_int Tryd.underlying3 (g3 : DataW.trod enc Tryd.prog w 0 (fun _ => true) true n 3 [v3] = some y3)
      cases e0; cases e1; cases e2; cases e3
      have hb3 := elem_bulk (elems.map (·.1)) i (by simpa using hi2)
      rw [List.getElem_map] at hb3
      have hb4 : Rows.uptoBulk (elems[i]).1 ≤ 1048576 := by simp only [Rows.uptoBulk] at hx; omega
      have hb5 : (bs t1).length + (bs t2).length + 1 ≤ Rows.uptoBulk (elems[i]).1 := by
        rw [hxs]
        simp only [Rows.uptoBulk, Rows.uptoBulkAll, List.map_cons, List.map_nil, d1, d2]
        unfold bs
        omega
      have hw3 : -9223372036854775808 ≤ k3 ∧ k3 ≤ 9223372036854775807 := by first | exact wf_i64 f3 | exact wf_i64 f3.1 | exact wf_i64 f3.2
      exact ⟨⟨k0, bs t1, bs t2, k3⟩, hi2, q0, by rw [q1, mk_bs], by rw [q2, mk_bs], q3, ⟨by show (bs t1).length ≤ _; omega, by show (bs t2).length ≤ _; omega, hw3.1, hw3.2⟩⟩
    obtain ⟨F, hF⟩ := @Deep.choose_lt OpD ⟨⟨0, [], [], 0⟩⟩ _ _ hch
    have hln : len ≤ 1048576 := by
      have hl := bulk_len (elems.map (·.1))
      rw [List.length_map, hel] at hl
      simp only [Rows.uptoBulk] at hx
      omega
    refine ⟨(List.range len).map F, ⟨some a, cap, by simp, ?_⟩, ?_, by simpa using hln⟩
    · rcases Nat.eq_zero_or_pos len with h0 | hp
      · left; rw [h0]; rfl
      · right
        have hs : a.spot = none := by
          obtain ⟨_, h1, _⟩ := hF 0 hp
          have := spot_none h1
          simpa [Addr.add] using this
        refine ⟨a.block, a.off, by obtain ⟨b, o, s⟩ := a; obtain rfl : s = none := hs; rfl, fun k hk => ?_⟩
        have hk' : k < len := by simpa using hk
        obtain ⟨_, h0, h1, h2, h3, _⟩ := hF k hk'
        rw [add_of hs, Addr.add_lit] at h0 h1 h2 h3
        simp only [List.getElem_map, List.getElem_range]
        exact ⟨h0, h1, h2, h3⟩
    · intro y hy
      obtain ⟨i, hi, rfl⟩ := List.mem_map.1 hy
      obtain ⟨_, _, _, _, _, h⟩ := hF i (List.mem_range.1 hi)
      exact h
end
end Go.Proofs.YtolihcgpnoacaaaDoor.OpenO
