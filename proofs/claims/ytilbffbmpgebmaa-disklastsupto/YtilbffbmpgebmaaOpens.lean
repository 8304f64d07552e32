/- From what a script of deeds reads as to rows in memory, and how much they hold. -/
import Derived.Test.YtilbffbmpgebmaaDeeds
import Derived.Test.YtilbffbmpgebmaaRows
import Derived.ChangeSlices
import Derived.Deep.Slices
namespace Go.Proofs.Ytilbffbmpgebmaa.Opens
open Go.ChangeShapes Go.WideShapes Go.RowKit
open Go.Proofs.Ytilbffbmpgebmaa.DiskMath
open Go.Proofs.Ytilbffbmpgebmaa.Base
open Go.Proofs.Ytilbffbmpgebmaa.Plan
open Go.Proofs.Ytilbffbmpgebmaa.Crash
open Go.Proofs.Ytilbffbmpgebmaa.Deeds
set_option linter.unusedVariables false
theorem cells3 : Try.prog.cellsOf 3 = 1 := by kernel_rfl
theorem cells9 : Try.prog.cellsOf 9 = 1 := by kernel_rfl
theorem cells29 : Try.prog.cellsOf 29 = 1 := by kernel_rfl
theorem cells34 : Try.prog.cellsOf 34 = 1 := by kernel_rfl
theorem cells36 : Try.prog.cellsOf 36 = 2 := by kernel_rfl
theorem cells38 : Try.prog.cellsOf 38 = 7 := by kernel_rfl
theorem cells58 : Try.prog.cellsOf 58 = 3 := by kernel_rfl
instance : Inhabited Ft := ⟨⟨0, 0, 0⟩⟩
theorem bulk_sum {H : Type} : ∀ (l : List (DataW H)) (f : Nat → Nat), (∀ i (h : i < l.length), f i ≤ Rows.uptoBulk l[i]) → ((List.range l.length).map f).sum ≤ Rows.uptoBulkAll l
  | [], f, h => Nat.zero_le _
  | d :: l, f, h => by
    have ih := bulk_sum l (fun i => f (i + 1)) (fun i hi => h (i + 1) (Nat.succ_lt_succ hi))
    have h0 : f 0 ≤ Rows.uptoBulk d := h 0 (Nat.succ_pos _)
    rw [List.length_cons, List.range_succ_eq_map, List.map_cons, List.sum_cons, List.map_map, Rows.uptoBulkAll]
    have e : (List.range l.length).map (f ∘ Nat.succ) = (List.range l.length).map (fun i => f (i + 1)) := rfl
    rw [e]
    omega
theorem bulk_one {H : Type} (d : DataW H) : 1 ≤ Rows.uptoBulk d := by
  cases d with
  | lit l => cases l <;> simp only [Rows.uptoBulk] <;> omega
  | _ => simp only [Rows.uptoBulk] <;> omega
theorem bulk_len {H : Type} : ∀ l : List (DataW H), l.length ≤ Rows.uptoBulkAll l
  | [] => Nat.zero_le _
  | d :: l => by
    have := bulk_len l
    have := bulk_one d
    rw [List.length_cons, Rows.uptoBulkAll]
    omega
theorem spot_none {w : World} {a : Addr} {v : Value} (h : w.cell? a = some v) : a.spot = none := by
  unfold World.cell? at h
  rcases hh : w.heap[a.block]? with _ | o
  · rw [hh] at h; cases h
  · rw [hh] at h
    cases o with
    | cells c ty fz =>
      cases hs : a.spot with
      | none => rfl
      | some s => simp [hs] at h
    | _ => cases h
theorem add_of {a : Addr} (h : a.spot = none) (k : Nat) : a.add k = ⟨a.block, a.off + k, none⟩ := by
  obtain ⟨b, o, s⟩ := a
  obtain rfl : s = none := h
  exact Addr.add_lit b o k
theorem wf_i64 {n : Int} (h : (Lit.int .i64 n).wf = true) : -9223372036854775808 ≤ n ∧ n ≤ 9223372036854775807 := by
  simp [Lit.wf, IntKind.min, IntKind.max, IntKind.signed, IntKind.bits] at h
  omega
theorem cells_three {w : World} {a : Addr} {cs : List Value} (h : w.cells? 0 a 3 = some cs) : ∃ v0 v1 v2, cs = [v0, v1, v2] ∧ w.cell? (a.add 0) = some v0 ∧ w.cell? (a.add 1) = some v1 ∧ w.cell? (a.add 2) = some v2 := by
  unfold World.cells? at h
  rw [if_pos (Nat.zero_le _)] at h
  simp only [List.range_succ, List.range_zero, List.nil_append, List.cons_append, List.mapM_cons, List.mapM_nil] at h
  cases h0 : w.cell? (a.add 0) with
  | none => rw [h0] at h; simp at h
  | some v0 =>
    cases h1 : w.cell? (a.add 1) with
    | none => rw [h0, h1] at h; simp at h
    | some v1 =>
      cases h2 : w.cell? (a.add 2) with
      | none => rw [h0, h1, h2] at h; simp at h
      | some v2 =>
        rw [h0, h1, h2] at h; simp at h; exact ⟨v0, v1, v2, h.symm, rfl, rfl, rfl⟩
theorem cells_seven {w : World} {a : Addr} {cs : List Value} (h : w.cells? 0 a 7 = some cs) : ∃ v0 v1 v2 v3 v4 v5 v6, cs = [v0, v1, v2, v3, v4, v5, v6] ∧ w.cell? (a.add 0) = some v0 ∧ w.cell? (a.add 1) = some v1 ∧ w.cell? (a.add 2) = some v2 ∧ w.cell? (a.add 3) = some v3 ∧ w.cell? (a.add 4) = some v4 ∧ w.cell? (a.add 5) = some v5 ∧ w.cell? (a.add 6) = some v6 := by
  unfold World.cells? at h
  rw [if_pos (Nat.zero_le _)] at h
  simp only [List.range_succ, List.range_zero, List.nil_append, List.cons_append, List.mapM_cons, List.mapM_nil] at h
  cases h0 : w.cell? (a.add 0) with
  | none => rw [h0] at h; simp at h
  | some v0 =>
    cases h1 : w.cell? (a.add 1) with
    | none => rw [h0, h1] at h; simp at h
    | some v1 =>
      cases h2 : w.cell? (a.add 2) with
      | none => rw [h0, h1, h2] at h; simp at h
      | some v2 =>
        cases h3 : w.cell? (a.add 3) with
        | none => rw [h0, h1, h2, h3] at h; simp at h
        | some v3 =>
          cases h4 : w.cell? (a.add 4) with
          | none => rw [h0, h1, h2, h3, h4] at h; simp at h
          | some v4 =>
            cases h5 : w.cell? (a.add 5) with
            | none => rw [h0, h1, h2, h3, h4, h5] at h; simp at h
            | some v5 =>
              cases h6 : w.cell? (a.add 6) with
              | none => rw [h0, h1, h2, h3, h4, h5, h6] at h; simp at h
              | some v6 =>
                rw [h0, h1, h2, h3, h4, h5, h6] at h; simp at h; exact ⟨v0, v1, v2, v3, v4, v5, v6, h.symm, rfl, rfl, rfl, rfl, rfl, rfl, rfl⟩
theorem two_of {α : Type} (l : List α) (h : l.length = 2) : ∃ a0 a1, l = [a0, a1] := by
  match l, h with
  | [a0, a1], _ => exact ⟨a0, a1, rfl⟩
theorem three_of {α : Type} (l : List α) (h : l.length = 3) : ∃ a0 a1 a2, l = [a0, a1, a2] := by
  match l, h with
  | [a0, a1, a2], _ => exact ⟨a0, a1, a2, rfl⟩
theorem six_of {α : Type} (l : List α) (h : l.length = 6) : ∃ a0 a1 a2 a3 a4 a5, l = [a0, a1, a2, a3, a4, a5] := by
  match l, h with
  | [a0, a1, a2, a3, a4, a5], _ => exact ⟨a0, a1, a2, a3, a4, a5, rfl⟩
section
variable {H : Type} {enc : TypeId × Value → H} {w : World} {fuel : Nat} {c : Value} {x : DataW H × List MemPlace}
theorem open_bytes (h : DataW.trod enc Try.prog w 0 (fun _ => true) true fuel 34 [c] = some x) : ∃ a0 n0 c0 bytes, c = .slice a0 n0 c0 ∧ IntSl w (.slice a0 n0 c0) bytes ∧ bytes.length + 1 ≤ Rows.uptoBulk x.1 := by
  rcases ChangeShapes.open_ints Try.underlying34 Try.underlying3 cells3 h with ⟨e, rfl⟩ | ⟨a, len, cap, zs, e, -, hlc, hm, hz, rfl, hat, -⟩
  · cases e
    exact ⟨none, 0, 0, [], rfl, ⟨none, 0, rfl, Or.inl rfl⟩, bulk_one _⟩
  · cases e
    have hl : len ≤ zs.length := by rw [hz]; simp; exact hlc
    have hlen : (zs.take len).length = len := by rw [List.length_take]; omega
    refine ⟨some a, len, cap, zs.take len, rfl, ⟨some a, cap, by rw [hlen], ?_⟩, ?_⟩
    · by_cases h0 : len = 0
      · left; rw [h0]; rfl
      · right
        have hsp := spot_none (hat 0 (by omega))
        have hs : a.spot = none := by simpa [Addr.add] using hsp
        refine ⟨a.block, a.off, by obtain ⟨b, o, s⟩ := a; obtain rfl : s = none := hs; rfl, fun j hj => ?_⟩
        have hj2 : j < zs.length := by omega
        have h1 := hat j hj2
        rw [add_of hs] at h1
        rw [List.getElem_take]
        simp only [List.getD_eq_getElem?_getD, List.getElem?_eq_getElem hj2, Option.getD_some] at h1
        exact h1
    · simp only [Rows.uptoBulk]
      have h1 := bulk_len (lits (H := H) .i64 (zs.take len))
      have h2 : (lits (H := H) .i64 (zs.take len)).length = (zs.take len).length := by simp [lits]
      omega
theorem open_faults (h : DataW.trod enc Try.prog w 0 (fun _ => true) true fuel 29 [c] = some x) : ∃ fa fn fc fl, c = .slice fa fn fc ∧ FtSl w (.slice fa fn fc) fl ∧ (∀ f ∈ fl, -9223372036854775808 ≤ f.step ∧ f.step ≤ 9223372036854775807 ∧ f.n ≤ 9223372036854775807) ∧ fl.length + 1 ≤ Rows.uptoBulk x.1 := by
  rcases DataW.trod_slice Try.underlying29 h with ⟨e3, rfl⟩ | ⟨a, len, cap, elems, rest, m, rfl, e3, rfl, -, hlc, hcm, hel, hat, -, -⟩
  · cases e3; exact ⟨none, 0, 0, [], rfl, ⟨none, 0, rfl, Or.inl rfl⟩, (fun f hf => by cases hf), bulk_one _⟩
  · cases e3
    have hch : ∀ i, i < len → ∃ f : Ft, w.cell? ((a.add (i * 3)).add 0) = some (.int .i64 f.step) ∧ w.cell? ((a.add (i * 3)).add 1) = some (.int .i64 f.kind) ∧ w.cell? ((a.add (i * 3)).add 2) = some (.int .i64 f.n) ∧ -9223372036854775808 ≤ f.step ∧ f.step ≤ 9223372036854775807 ∧ f.n ≤ 9223372036854775807 := by
      intro i hi
      have hi2 : i < elems.length := by omega
      have h1 := hat i hi
      rw [List.getElem?_eq_getElem hi2, cells58] at h1
      obtain ⟨cs', h2, h3⟩ := Option.bind_eq_some_iff.1 h1
      obtain ⟨v0, v1, v2, rfl, q0, q1, q2⟩ := cells_three h2
      obtain ⟨xs, n, -, hx, hl, hlen, hfd⟩ := DataW.trod_struct Try.underlying58 h3
      obtain ⟨y0, y1, y2, rfl⟩ := three_of xs hlen
      have g0 : DataW.trod enc Try.prog w 0 (fun _ => true) true n 3 (([v0, v1, v2].drop 0).take (Try.prog.cellsOf 3)) = some y0 := hfd 0 _ rfl
      rw [cells3] at g0
      have g1 : DataW.trod enc Try.prog w 0 (fun _ => true) true n 3 (([v0, v1, v2].drop 1).take (Try.prog.cellsOf 3)) = some y1 := hfd 1 _ rfl
      rw [cells3] at g1
      have g2 : DataW.trod enc Try.prog w 0 (fun _ => true) true n 3 (([v0, v1, v2].drop 2).take (Try.prog.cellsOf 3)) = some y2 := hfd 2 _ rfl
      rw [cells3] at g2
      obtain ⟨k0, e0, -, f0⟩ := DataW.trod_int Try.underlying3 (g0 : DataW.trod enc Try.prog w 0 (fun _ => true) true n 3 [v0] = some y0)
      obtain ⟨k1, e1, -, -⟩ := DataW.trod_int Try.underlying3 (g1 : DataW.trod enc Try.prog w 0 (fun _ => true) true n 3 [v1] = some y1)
      obtain ⟨k2, e2, -, f2⟩ := DataW.trod_int Try.underlying3 (g2 : DataW.trod enc Try.prog w 0 (fun _ => true) true n 3 [v2] = some y2)
      cases e0; cases e1; cases e2
      exact ⟨⟨k0, k1, k2⟩, q0, q1, q2, (wf_i64 f0).1, (wf_i64 f0).2, (wf_i64 f2).2⟩
    obtain ⟨F, hF⟩ := Deep.choose_lt hch
    refine ⟨some a, len, cap, (List.range len).map F, rfl, ⟨some a, cap, by simp, ?_⟩, ?_, ?_⟩
    · rcases Nat.eq_zero_or_pos len with h0 | hp
      · left; rw [h0]; rfl
      · right
        have hs : a.spot = none := by
          obtain ⟨h1, _⟩ := hF 0 hp
          have := spot_none h1
          simpa [Addr.add] using this
        refine ⟨a.block, a.off, by obtain ⟨b, o, s⟩ := a; obtain rfl : s = none := hs; rfl, fun k hk => ?_⟩
        have hk' : k < len := by simpa using hk
        obtain ⟨h1, h2, h3, _⟩ := hF k hk'
        rw [add_of hs, Addr.add_lit] at h1 h2 h3
        simp only [List.getElem_map, List.getElem_range]
        exact ⟨h1, h2, h3⟩
    · intro f hf
      obtain ⟨i, hi, rfl⟩ := List.mem_map.1 hf
      obtain ⟨_, _, _, h4⟩ := hF i (List.mem_range.1 hi)
      exact h4
    · simp only [Rows.uptoBulk]
      have h1 := bulk_len (elems.map (·.1))
      rw [List.length_map, hel] at h1
      simp only [List.length_map, List.length_range]
      omega
theorem open_deeds (h : DataW.trod enc Try.prog w 0 (fun _ => true) true fuel 22 [c] = some x) : ∃ l : List DD, DSl w c l ∧ wts l ≤ Rows.uptoBulk x.1 := by
  rcases DataW.trod_slice Try.underlying22 h with ⟨e3, rfl⟩ | ⟨a, len, cap, elems, rest, m, rfl, e3, rfl, -, hlc, hcm, hel, hat, -, -⟩
  · cases e3; exact ⟨[], ⟨⟨none, 0, rfl, Or.inl rfl⟩, fun x hx => by cases hx⟩, Nat.zero_le _⟩
  · cases e3
    have hch : ∀ i, i < len → ∃ o : DD, ∃ hi : i < elems.length, w.cell? ((a.add (i * 7)).add 0) = some (.int .i64 o.k) ∧ w.cell? ((a.add (i * 7)).add 1) = some (.string o.A) ∧ w.cell? ((a.add (i * 7)).add 2) = some (.string o.B) ∧ w.cell? ((a.add (i * 7)).add 3) = some (.int .i64 o.n) ∧ w.cell? ((a.add (i * 7)).add 4) = some (.slice o.fa o.fn o.fc) ∧ w.cell? ((a.add (i * 7)).add 5) = some (.int .i64 o.cn) ∧ w.cell? ((a.add (i * 7)).add 6) = some (.slice o.ba o.bn o.bc) ∧ o.ok w ∧ o.wt ≤ Rows.uptoBulk (elems[i]).1 := by
      intro i hi
      have hi2 : i < elems.length := by omega
      have h1 := hat i hi
      rw [List.getElem?_eq_getElem hi2, cells38] at h1
      obtain ⟨cs', h2, h3⟩ := Option.bind_eq_some_iff.1 h1
      obtain ⟨v0, v1, v2, v3, v4, v5, v6, rfl, q0, q1, q2, q3, q4, q5, q6⟩ := cells_seven h2
      obtain ⟨xs, n, -, hx, hl, hlen, hfd⟩ := DataW.trod_struct Try.underlying38 h3
      obtain ⟨y0, y1, y2, y3, y4, y5, rfl⟩ := six_of xs hlen
      have g0 : DataW.trod enc Try.prog w 0 (fun _ => true) true n 3 (([v0, v1, v2, v3, v4, v5, v6].drop 0).take (Try.prog.cellsOf 3)) = some y0 := hfd 0 _ rfl
      rw [cells3] at g0
      have g1 : DataW.trod enc Try.prog w 0 (fun _ => true) true n 9 (([v0, v1, v2, v3, v4, v5, v6].drop 1).take (Try.prog.cellsOf 9)) = some y1 := hfd 1 _ rfl
      rw [cells9] at g1
      have g2 : DataW.trod enc Try.prog w 0 (fun _ => true) true n 9 (([v0, v1, v2, v3, v4, v5, v6].drop 2).take (Try.prog.cellsOf 9)) = some y2 := hfd 2 _ rfl
      rw [cells9] at g2
      have g3 : DataW.trod enc Try.prog w 0 (fun _ => true) true n 3 (([v0, v1, v2, v3, v4, v5, v6].drop 3).take (Try.prog.cellsOf 3)) = some y3 := hfd 3 _ rfl
      rw [cells3] at g3
      have g4 : DataW.trod enc Try.prog w 0 (fun _ => true) true n 29 (([v0, v1, v2, v3, v4, v5, v6].drop 4).take (Try.prog.cellsOf 29)) = some y4 := hfd 4 _ rfl
      rw [cells29] at g4
      have g5 : DataW.trod enc Try.prog w 0 (fun _ => true) true n 36 (([v0, v1, v2, v3, v4, v5, v6].drop 5).take (Try.prog.cellsOf 36)) = some y5 := hfd 5 _ rfl
      rw [cells36] at g5
      obtain ⟨k0, e0, -, -⟩ := DataW.trod_int Try.underlying3 (g0 : DataW.trod enc Try.prog w 0 (fun _ => true) true n 3 [v0] = some y0)
      obtain ⟨s1, e1, x1, -⟩ := DataW.trod_string Try.underlying9 (g1 : DataW.trod enc Try.prog w 0 (fun _ => true) true n 9 [v1] = some y1)
      obtain ⟨s2, e2, x2, -⟩ := DataW.trod_string Try.underlying9 (g2 : DataW.trod enc Try.prog w 0 (fun _ => true) true n 9 [v2] = some y2)
      obtain ⟨k3, e3, -, -⟩ := DataW.trod_int Try.underlying3 (g3 : DataW.trod enc Try.prog w 0 (fun _ => true) true n 3 [v3] = some y3)
      obtain ⟨fa, fn, fc, fl, e4, hft, hfw, x4⟩ := open_faults (g4 : DataW.trod enc Try.prog w 0 (fun _ => true) true n 29 [v4] = some y4)
      obtain ⟨zs, m2, -, x5, -, hlen2, hfd2⟩ := DataW.trod_struct Try.underlying36 (g5 : DataW.trod enc Try.prog w 0 (fun _ => true) true n 36 [v5, v6] = some y5)
      obtain ⟨z0, z1, rfl⟩ := two_of zs hlen2
      have p0 : DataW.trod enc Try.prog w 0 (fun _ => true) true m2 3 (([v5, v6].drop 0).take (Try.prog.cellsOf 3)) = some z0 := hfd2 0 _ rfl
      rw [cells3] at p0
      have p1 : DataW.trod enc Try.prog w 0 (fun _ => true) true m2 34 (([v5, v6].drop 1).take (Try.prog.cellsOf 34)) = some z1 := hfd2 1 _ rfl
      rw [cells34] at p1
      obtain ⟨k5, e5, -, -⟩ := DataW.trod_int Try.underlying3 (p0 : DataW.trod enc Try.prog w 0 (fun _ => true) true m2 3 [v5] = some z0)
      obtain ⟨ba, bn, bc, bytes, e6, hit, x6⟩ := open_bytes (p1 : DataW.trod enc Try.prog w 0 (fun _ => true) true m2 34 [v6] = some z1)
      cases e0; cases e1; cases e2; cases e3; cases e5
      subst e4 e6
      refine ⟨⟨k0, s1, s2, k3, fa, fn, fc, k5, ba, bn, bc, fl, bytes⟩, hi2, q0, q1, q2, q3, q4, q5, q6, ⟨hft, hit, hfw⟩, ?_⟩
      rw [hx]
      subst x1 x2 x5
      simp only [Rows.uptoBulk, Rows.uptoBulkAll, List.map_cons, List.map_nil]
      have t1 : s1.data.toList.length = s1.size := len_bs s1
      have t2 : s2.data.toList.length = s2.size := len_bs s2
      unfold DD.wt
      simp only
      omega
    obtain ⟨F, hF⟩ := Deep.choose_lt hch
    refine ⟨(List.range len).map F, ⟨⟨some a, cap, by simp, ?_⟩, ?_⟩, ?_⟩
    · rcases Nat.eq_zero_or_pos len with h0 | hp
      · left; rw [h0]; rfl
      · right
        have hs : a.spot = none := by
          obtain ⟨_, h1, _⟩ := hF 0 hp
          have := spot_none h1
          simpa [Addr.add] using this
        refine ⟨a.block, a.off, by obtain ⟨b, o, s⟩ := a; obtain rfl : s = none := hs; rfl, fun k hk => ?_⟩
        have hk' : k < len := by simpa using hk
        obtain ⟨_, h0, h1, h2, h3, h4, h5, h6, _⟩ := hF k hk'
        rw [add_of hs, Addr.add_lit] at h0 h1 h2 h3 h4 h5 h6
        simp only [List.getElem_map, List.getElem_range]
        exact ⟨h0, h1, h2, h3, h4, h5, h6⟩
    · intro y hy
      obtain ⟨i, hi, rfl⟩ := List.mem_map.1 hy
      obtain ⟨_, _, _, _, _, _, _, _, h, _⟩ := hF i (List.mem_range.1 hi)
      exact h
    · have := bulk_sum (elems.map (·.1)) (fun i => (F i).wt) (fun i hi => by
        have hi' : i < len := by rw [List.length_map, hel] at hi; exact hi
        obtain ⟨_, _, _, _, _, _, _, _, _, h⟩ := hF i hi'
        rw [List.getElem_map]
        exact h)
      rw [List.length_map, hel] at this
      have e : wts ((List.range len).map F) = ((List.range len).map fun i => (F i).wt).sum := by
        unfold wts
        rw [List.map_map]
        rfl
      rw [e]
      simp only [Rows.uptoBulk]
      omega
end
end Go.Proofs.Ytilbffbmpgebmaa.Opens
