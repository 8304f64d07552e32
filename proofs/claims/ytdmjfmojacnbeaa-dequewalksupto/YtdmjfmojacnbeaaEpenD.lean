/- From what a script of deeds reads as to its cells, and how much it holds. -/
import Derived.Test.YtdmjfmojacnbeaaEoes
import Derived.Test.YtdmjfmojacnbeaaOpens
namespace Go.Proofs.Ytdmjfmojacnbeaa.EpenD
open Go.ChangeShapes Go.WideShapes Go.RowKit
open Go.Proofs.Ytdmjfmojacnbeaa.Base
open Go.Proofs.Ytdmjfmojacnbeaa.EoA
open Go.Proofs.Ytdmjfmojacnbeaa.Eoes
open Go.Proofs.Ytdmjfmojacnbeaa.Opens
set_option linter.unusedVariables false
theorem cells4 : Try.prog.cellsOf 4 = 1 := by kernel_rfl
theorem cells22 : Try.prog.cellsOf 22 = 1 := by kernel_rfl
theorem cells30 : Try.prog.cellsOf 30 = 6 := by kernel_rfl
instance : Inhabited DD := ⟨⟨0, none, 0, [], 0, 0, 0, false⟩⟩
theorem bulk_sum {H : Type} : ∀ (l : List (DataW H)) (f : Nat → Nat), (∀ i (h : i < l.length), f i ≤ Rows.uptoBulk l[i]) → ((List.range l.length).map f).sum ≤ Rows.uptoBulkAll l
  | [], f, h => Nat.zero_le _
  | d :: l, f, h => by
    have ih := bulk_sum l (fun i => f (i + 1)) (fun i hi => h (i + 1) (Nat.succ_lt_succ hi))
    have h0 : f 0 ≤ Rows.uptoBulk d := h 0 (Nat.succ_pos _)
    rw [List.length_cons, List.range_succ_eq_map, List.map_cons, List.sum_cons, List.map_map, Rows.uptoBulkAll]
    have e : (List.range l.length).map (f ∘ Nat.succ) = (List.range l.length).map (fun i => f (i + 1)) := rfl
    rw [e]
    omega
theorem cells_six {w : World} {a : Addr} {cs : List Value} (h : w.cells? 0 a 6 = some cs) : ∃ v0 v1 v2 v3 v4 v5, cs = [v0, v1, v2, v3, v4, v5] ∧ w.cell? (a.add 0) = some v0 ∧ w.cell? (a.add 1) = some v1 ∧ w.cell? (a.add 2) = some v2 ∧ w.cell? (a.add 3) = some v3 ∧ w.cell? (a.add 4) = some v4 ∧ w.cell? (a.add 5) = some v5 := by
  unfold World.cells? at h
  rw [if_pos (Nat.zero_le _)] at h
  simp only [List.range_succ, List.range_zero, List.nil_append, List.cons_append, List.mapM_cons, List.mapM_nil] at h
  cases h0 : w.cell? (a.add 0) with
  | none => rw [h0] at h; simp at h
  | some v0 =>
    cases h1 : w.cell? (a.add 1) with
    | none => rw [h0, h1] at h; simp at h
    | some v1 =>
      cases h2 : w.cell? (a.add 2) with
      | none => rw [h0, h1, h2] at h; simp at h
      | some v2 =>
        cases h3 : w.cell? (a.add 3) with
        | none => rw [h0, h1, h2, h3] at h; simp at h
        | some v3 =>
          cases h4 : w.cell? (a.add 4) with
          | none => rw [h0, h1, h2, h3, h4] at h; simp at h
          | some v4 =>
            cases h5 : w.cell? (a.add 5) with
            | none => rw [h0, h1, h2, h3, h4, h5] at h; simp at h
            | some v5 =>
              rw [h0, h1, h2, h3, h4, h5] at h; simp at h; exact ⟨v0, v1, v2, v3, v4, v5, h.symm, rfl, rfl, rfl, rfl, rfl, rfl⟩
theorem six_of {α : Type} (l : List α) (h : l.length = 6) : ∃ a0 a1 a2 a3 a4 a5, l = [a0, a1, a2, a3, a4, a5] := by
  match l, h with
  | [a0, a1, a2, a3, a4, a5], _ => exact ⟨a0, a1, a2, a3, a4, a5, rfl⟩
section
variable {H : Type} {enc : TypeId × Value → H} {w : World} {fuel : Nat} {c : Value} {x : DataW H × List MemPlace}
theorem open_deeds (h : DataW.trod enc Try.prog w 0 (fun _ => true) true fuel 23 [c] = some x) : ∃ l : List DD, DSl w c l ∧ wts l + 1 ≤ Rows.uptoBulk x.1 := by
  rcases DataW.trod_slice Try.underlying23 h with ⟨e3, rfl⟩ | ⟨a, len, cap, elems, rest, m, rfl, e3, rfl, -, hlc, hcm, hel, hat, -, -⟩
  · cases e3; exact ⟨[], ⟨⟨none, 0, rfl, Or.inl rfl⟩, fun x hx => by cases hx⟩, bulk_one _⟩
  · cases e3
    have hch : ∀ i, i < len → ∃ o : DD, ∃ hi : i < elems.length, w.cell? ((a.add (i * 6)).add 0) = some (.int .i64 o.K) ∧ w.cell? ((a.add (i * 6)).add 1) = some (.slice o.la o.m.length o.lc) ∧ w.cell? ((a.add (i * 6)).add 2) = some (.int .i64 o.A) ∧ w.cell? ((a.add (i * 6)).add 3) = some (.int .i64 o.Bq) ∧ w.cell? ((a.add (i * 6)).add 4) = some (.int .i64 o.C) ∧ w.cell? ((a.add (i * 6)).add 5) = some (.bool o.bf) ∧ DD.ok w o ∧ o.wt ≤ Rows.uptoBulk (elems[i]).1 := by
      intro i hi
      have hi2 : i < elems.length := by omega
      have h1 := hat i hi
      rw [List.getElem?_eq_getElem hi2, cells30] at h1
      obtain ⟨cs', h2, h3⟩ := Option.bind_eq_some_iff.1 h1
      obtain ⟨v0, v1, v2, v3, v4, v5, rfl, q0, q1, q2, q3, q4, q5⟩ := cells_six h2
      obtain ⟨xs, n, -, hx, hl, hlen, hfd⟩ := DataW.trod_struct Try.underlying30 h3
      obtain ⟨y0, y1, y2, y3, y4, y5, rfl⟩ := six_of xs hlen
      have g0 : DataW.trod enc Try.prog w 0 (fun _ => true) true n 3 (([v0, v1, v2, v3, v4, v5].drop 0).take (Try.prog.cellsOf 3)) = some y0 := hfd 0 _ rfl
      rw [cells3] at g0
      have g1 : DataW.trod enc Try.prog w 0 (fun _ => true) true n 22 (([v0, v1, v2, v3, v4, v5].drop 1).take (Try.prog.cellsOf 22)) = some y1 := hfd 1 _ rfl
      rw [cells22] at g1
      have g2 : DataW.trod enc Try.prog w 0 (fun _ => true) true n 3 (([v0, v1, v2, v3, v4, v5].drop 2).take (Try.prog.cellsOf 3)) = some y2 := hfd 2 _ rfl
      rw [cells3] at g2
      have g3 : DataW.trod enc Try.prog w 0 (fun _ => true) true n 3 (([v0, v1, v2, v3, v4, v5].drop 3).take (Try.prog.cellsOf 3)) = some y3 := hfd 3 _ rfl
      rw [cells3] at g3
      have g4 : DataW.trod enc Try.prog w 0 (fun _ => true) true n 3 (([v0, v1, v2, v3, v4, v5].drop 4).take (Try.prog.cellsOf 3)) = some y4 := hfd 4 _ rfl
      rw [cells3] at g4
      have g5 : DataW.trod enc Try.prog w 0 (fun _ => true) true n 4 (([v0, v1, v2, v3, v4, v5].drop 5).take (Try.prog.cellsOf 4)) = some y5 := hfd 5 _ rfl
      rw [cells4] at g5
      obtain ⟨k0, e0, -, -⟩ := DataW.trod_int Try.underlying3 (g0 : DataW.trod enc Try.prog w 0 (fun _ => true) true n 3 [v0] = some y0)
      obtain ⟨k2, e2, -, f2⟩ := DataW.trod_int Try.underlying3 (g2 : DataW.trod enc Try.prog w 0 (fun _ => true) true n 3 [v2] = some y2)
      obtain ⟨k3, e3, -, f3⟩ := DataW.trod_int Try.underlying3 (g3 : DataW.trod enc Try.prog w 0 (fun _ => true) true n 3 [v3] = some y3)
      obtain ⟨k4, e4, -, -⟩ := DataW.trod_int Try.underlying3 (g4 : DataW.trod enc Try.prog w 0 (fun _ => true) true n 3 [v4] = some y4)
      obtain ⟨k5, e5, -⟩ := DataW.trod_bool Try.underlying4 (g5 : DataW.trod enc Try.prog w 0 (fun _ => true) true n 4 [v5] = some y5)
      obtain ⟨ml, s1, b1, -, -⟩ := open_nums (g1 : DataW.trod enc Try.prog w 0 (fun _ => true) true n 22 [v1] = some y1)
      cases e0; cases e2; cases e3; cases e4; cases e5
      obtain ⟨la, lc, rfl, hlc1, hrd1⟩ := id s1
      refine ⟨⟨k0, la, lc, ml, k2, k3, k4, k5⟩, hi2, q0, q1, q2, q3, q4, q5, ⟨s1, ?_, ?_⟩, ?_⟩
      · first | exact wf_i64 f2 | exact wf_i64 f2.1 | exact wf_i64 f2.2
      · first | exact wf_i64 f3 | exact wf_i64 f3.1 | exact wf_i64 f3.2
      · rw [hx]
        simp only [Rows.uptoBulk, Rows.uptoBulkAll, List.map_cons, List.map_nil]
        unfold DD.wt
        simp only
        omega
    obtain ⟨F, hF⟩ := Deep.choose_lt hch
    refine ⟨(List.range len).map F, ⟨⟨some a, cap, by simp, ?_⟩, ?_⟩, ?_⟩
    · rcases Nat.eq_zero_or_pos len with h0 | hp
      · left; rw [h0]; rfl
      · right
        have hs : a.spot = none := by
          obtain ⟨_, h1, _⟩ := hF 0 hp
          have := spot_none h1
          simpa [Addr.add] using this
        refine ⟨a.block, a.off, by obtain ⟨b, o, s⟩ := a; obtain rfl : s = none := hs; rfl, fun k y hk => ?_⟩
        have hk' : k < len := by have := (List.getElem?_eq_some_iff.1 hk).1; simpa using this
        have hy : y = F k := by simp [hk'] at hk; exact hk.symm
        subst hy
        obtain ⟨_, h0, h1, h2, h3, h4, h5, _⟩ := hF k hk'
        rw [add_of hs, Addr.add_lit] at h0 h1 h2 h3 h4 h5
        exact ⟨h0, h1, h2, h3, h4, h5⟩
    · intro y hy
      obtain ⟨i, hi, rfl⟩ := List.mem_map.1 hy
      obtain ⟨_, _, _, _, _, _, _, h, _⟩ := hF i (List.mem_range.1 hi)
      exact h
    · have := bulk_sum (elems.map (·.1)) (fun i => (F i).wt) (fun i hi => by
        have hi' : i < len := by rw [List.length_map, hel] at hi; exact hi
        obtain ⟨_, _, _, _, _, _, _, _, h⟩ := hF i hi'
        rw [List.getElem_map]
        exact h)
      rw [List.length_map, hel] at this
      have e : wts ((List.range len).map F) = ((List.range len).map fun i => (F i).wt).sum := by
        unfold wts
        rw [List.map_map]
        rfl
      rw [e]
      simp only [Rows.uptoBulk]
      omega
end
end Go.Proofs.Ytdmjfmojacnbeaa.EpenD
