/- From what a value reads as to its cells, and how much it holds. -/
import Derived.Test.YtdcnkdkhanmklabApart
import Derived.Test.YtdcnkdkhanmklabRows
import Derived.Carry
import Derived.ProofKit
import Derived.Deep.Slices
namespace Go.Proofs.Ytdcnkdkhanmklab.OpenV
open Go.ChangeShapes Go.WideShapes Go.RowKit
open Go.Proofs.Ytdcnkdkhanmklab.SetMath
open Go.Proofs.Ytdcnkdkhanmklab.ValueMath
open Go.Proofs.Ytdcnkdkhanmklab.Base
open Go.Proofs.Ytdcnkdkhanmklab.Vals
set_option linter.unusedVariables false
set_option linter.unusedSimpArgs false
theorem laidOut : laidOutB Try.prog = true := by kernel_rfl
theorem cellsS : Try.prog.cellsOf 9 = 1 := by kernel_rfl
theorem cellsI : Try.prog.cellsOf 3 = 1 := by kernel_rfl
theorem cellsF : Try.prog.cellsOf 38 = 2 := by kernel_rfl
theorem cellsE : Try.prog.cellsOf 40 = 2 := by kernel_rfl
theorem cells22 : Try.prog.cellsOf 22 = 1 := by kernel_rfl
theorem cells23 : Try.prog.cellsOf 23 = 1 := by kernel_rfl
theorem cells24 : Try.prog.cellsOf 24 = 1 := by kernel_rfl
theorem cells26 : Try.prog.cellsOf 26 = 5 := by kernel_rfl
theorem bytesS : Try.prog.bytesOf 9 = 16 := by kernel_rfl
theorem bytesF : Try.prog.bytesOf 38 = 32 := by kernel_rfl
theorem bytesE : Try.prog.bytesOf 40 = 24 := by kernel_rfl
theorem spot_none {w : World} {a : Addr} {v : Value} (h : w.cell? a = some v) : a.spot = none := by
  unfold World.cell? at h
  rcases hh : w.heap[a.block]? with _ | o
  · rw [hh] at h; cases h
  · rw [hh] at h
    cases o with
    | cells c ty fz =>
      cases hs : a.spot with
      | none => rfl
      | some s => simp [hs] at h
    | _ => cases h
theorem cells_one {w : World} {a : Addr} {cs : List Value} (h : w.cells? 0 a 1 = some cs) : ∃ v0, cs = [v0] ∧ w.cell? (a.add 0) = some v0 := by
  unfold World.cells? at h
  rw [if_pos (Nat.zero_le _)] at h
  simp only [List.range_succ, List.range_zero, List.nil_append, List.mapM_cons, List.mapM_nil] at h
  cases h0 : w.cell? (a.add 0) with
  | none => rw [h0] at h; simp at h
  | some v0 => rw [h0] at h; simp at h; exact ⟨v0, h.symm, rfl⟩
theorem cells_two {w : World} {a : Addr} {cs : List Value} (h : w.cells? 0 a 2 = some cs) : ∃ v0 v1, cs = [v0, v1] ∧ w.cell? (a.add 0) = some v0 ∧ w.cell? (a.add 1) = some v1 := by
  unfold World.cells? at h
  rw [if_pos (Nat.zero_le _)] at h
  simp only [List.range_succ, List.range_zero, List.nil_append, List.cons_append, List.mapM_cons, List.mapM_nil] at h
  cases h0 : w.cell? (a.add 0) with
  | none => rw [h0] at h; simp at h
  | some v0 =>
    cases h1 : w.cell? (a.add 1) with
    | none => rw [h0, h1] at h; simp at h
    | some v1 => rw [h0, h1] at h; simp at h; exact ⟨v0, v1, h.symm, rfl, rfl⟩
theorem two_of {α : Type} (l : List α) (h : l.length = 2) : ∃ a0 a1, l = [a0, a1] := by
  match l, h with
  | [a0, a1], _ => exact ⟨a0, a1, rfl⟩
theorem five_of {α : Type} (l : List α) (h : l.length = 5) : ∃ a b c d e, l = [a, b, c, d, e] := by
  match l, h with
  | [a, b, c, d, e], _ => exact ⟨a, b, c, d, e, rfl⟩
theorem agg_of {v : Value} {c0 c1 c2 c3 c4 : Value} (h : v.cells.toList = [c0, c1, c2, c3, c4]) : v = .agg #[c0, c1, c2, c3, c4] := by
  cases v with
  | agg cs =>
    have : cs = #[c0, c1, c2, c3, c4] := by
      apply Array.toList_inj.1
      exact h
    rw [this]
  | _ => simp [Value.cells] at h
theorem bulk_one {H : Type} (d : DataW H) : 1 ≤ Rows.uptoBulk d := by
  cases d with
  | lit l => cases l <;> simp only [Rows.uptoBulk] <;> omega
  | _ => simp only [Rows.uptoBulk] <;> omega
theorem bulk_sum {H : Type} : ∀ (l : List (DataW H)) (f : Nat → Nat), (∀ i (h : i < l.length), f i ≤ Rows.uptoBulk l[i]) → ((List.range l.length).map f).sum ≤ Rows.uptoBulkAll l
  | [], f, h => Nat.zero_le _
  | d :: l, f, h => by
    have ih := bulk_sum l (fun i => f (i + 1)) (fun i hi => h (i + 1) (Nat.succ_lt_succ hi))
    have h0 : f 0 ≤ Rows.uptoBulk d := h 0 (Nat.succ_pos _)
    rw [List.length_cons, List.range_succ_eq_map, List.map_cons, List.sum_cons, List.map_map, Rows.uptoBulkAll]
    have e : (List.range l.length).map (f ∘ Nat.succ) = (List.range l.length).map (fun i => f (i + 1)) := rfl
    rw [e]
    omega
theorem add_of {a : Addr} (h : a.spot = none) (k : Nat) : a.add k = ⟨a.block, a.off + k, none⟩ := by
  obtain ⟨b, o, s⟩ := a
  obtain rfl : s = none := h
  exact Addr.add_lit b o k
section
variable {H : Type} {enc : TypeId × Value → H} {w : World} {fuel : Nat} {c : Value} {x : DataW H × List MemPlace}

theorem openF (h : DataW.trod enc Try.prog w 0 (fun _ => true) true fuel 23 [c] = some x) : ∃ l : FRow.LL, FRow.FS w c l ∧ (l.map fun p => p.1.length + p.2.length + 1).sum + 1 ≤ Rows.uptoBulk x.1 ∧ ((∀ n ∈ x.1.weights Try.prog 23, n ≤ reachBytes) → l.length * 32 ≤ 140737488351232) := by
  rcases DataW.trod_slice Try.underlying23 h with ⟨e3, rfl⟩ | ⟨a, len, cap, elems, rest, m, rfl, e3, rfl, -, hlc, hcm, hel, hat, -, -⟩
  · cases e3; exact ⟨[], ⟨none, 0, rfl, Nat.le_refl _, Or.inl rfl⟩, bulk_one _, fun _ => by simp⟩
  · cases e3
    have hch : ∀ i, i < len → ∃ o : Bs × Bs, ∃ hi : i < elems.length, w.cell? ((a.add (i * 2)).add 0) = some (.string (mk o.1)) ∧ w.cell? ((a.add (i * 2)).add 1) = some (.string (mk o.2)) ∧ (fun p : Bs × Bs => p.1.length + p.2.length + 1) o ≤ Rows.uptoBulk (elems[i]).1 := by
      intro i hi
      have hi2 : i < elems.length := by omega
      have h1 := hat i hi
      rw [List.getElem?_eq_getElem hi2, cellsF] at h1
      obtain ⟨cs', h2, h3⟩ := Option.bind_eq_some_iff.1 h1
      obtain ⟨v0, v1, rfl, q0, q1⟩ := cells_two h2
      obtain ⟨xs, n, -, hxs, hl, hlen, hfd⟩ := DataW.trod_struct Try.underlying38 h3
      obtain ⟨y0, y1, rfl⟩ := two_of xs hlen
      have g0 : DataW.trod enc Try.prog w 0 (fun _ => true) true n 9 (([v0, v1].drop 0).take (Try.prog.cellsOf 9)) = some y0 := hfd 0 _ rfl
      rw [cellsS] at g0
      have g1 : DataW.trod enc Try.prog w 0 (fun _ => true) true n 9 (([v0, v1].drop 1).take (Try.prog.cellsOf 9)) = some y1 := hfd 1 _ rfl
      rw [cellsS] at g1
      obtain ⟨t0, e0, d0, _⟩ := DataW.trod_string Try.underlying9 (g0 : DataW.trod enc Try.prog w 0 (fun _ => true) true n 9 [v0] = some y0)
      obtain ⟨t1, e1, d1, _⟩ := DataW.trod_string Try.underlying9 (g1 : DataW.trod enc Try.prog w 0 (fun _ => true) true n 9 [v1] = some y1)
      cases e0; cases e1
      refine ⟨(bs t0, bs t1), hi2, by rw [q0, mk_bs], by rw [q1, mk_bs], ?_⟩
      rw [hxs]
      simp only [Rows.uptoBulk, Rows.uptoBulkAll, List.map_cons, List.map_nil, d0, d1]
      unfold bs
      omega
    obtain ⟨F, hF⟩ := Deep.choose_lt hch
    refine ⟨(List.range len).map F, ⟨some a, cap, by simp, by simpa using hlc, ?_⟩, ?_, fun hx => ?_⟩
    · rcases Nat.eq_zero_or_pos len with h0 | hp
      · left; rw [h0]; rfl
      · right
        have hs : a.spot = none := by
          obtain ⟨_, h1, _⟩ := hF 0 hp
          have := spot_none h1
          simpa [Addr.add] using this
        refine ⟨a.block, a.off, by obtain ⟨b, o, s⟩ := a; obtain rfl : s = none := hs; rfl, fun k hk => ?_⟩
        have hk' : k < len := by simpa using hk
        obtain ⟨_, h0, h1, _⟩ := hF k hk'
        rw [add_of hs, Addr.add_lit] at h0 h1
        simp only [List.getElem_map, List.getElem_range]
        exact ⟨h0, h1⟩
    · have := bulk_sum (elems.map (·.1)) (fun i => (fun p : Bs × Bs => p.1.length + p.2.length + 1) (F i)) (fun i hi => by
        have hi' : i < len := by rw [List.length_map, hel] at hi; exact hi
        obtain ⟨_, _, _, h⟩ := hF i hi'
        rw [List.getElem_map]
        exact h)
      rw [List.length_map, hel] at this
      rw [List.map_map]
      simp only [Rows.uptoBulk]
      have e : ((fun p : Bs × Bs => p.1.length + p.2.length + 1) ∘ F) = fun i => (fun p : Bs × Bs => p.1.length + p.2.length + 1) (F i) := rfl
      rw [e]
      omega
    · have hl := hx ((elems.length + rest.length) * 32) (by simp [DataW.weights, Try.underlying23, bytesF])
      have hr : reachBytes = 140737488351232 := rfl
      simp
      omega

theorem openE (h : DataW.trod enc Try.prog w 0 (fun _ => true) true fuel 24 [c] = some x) : ∃ l : ERow.LL, ERow.FS w c l ∧ (l.map fun p => p.1.length + 1).sum + 1 ≤ Rows.uptoBulk x.1 ∧ ((∀ n ∈ x.1.weights Try.prog 24, n ≤ reachBytes) → l.length * 24 ≤ 140737488351232) := by
  rcases DataW.trod_slice Try.underlying24 h with ⟨e3, rfl⟩ | ⟨a, len, cap, elems, rest, m, rfl, e3, rfl, -, hlc, hcm, hel, hat, -, -⟩
  · cases e3; exact ⟨[], ⟨none, 0, rfl, Nat.le_refl _, Or.inl rfl⟩, bulk_one _, fun _ => by simp⟩
  · cases e3
    have hch : ∀ i, i < len → ∃ o : Bs × Int, ∃ hi : i < elems.length, w.cell? ((a.add (i * 2)).add 0) = some (.string (mk o.1)) ∧ w.cell? ((a.add (i * 2)).add 1) = some (.int .i64 o.2) ∧ (fun p : Bs × Int => p.1.length + 1) o ≤ Rows.uptoBulk (elems[i]).1 := by
      intro i hi
      have hi2 : i < elems.length := by omega
      have h1 := hat i hi
      rw [List.getElem?_eq_getElem hi2, cellsE] at h1
      obtain ⟨cs', h2, h3⟩ := Option.bind_eq_some_iff.1 h1
      obtain ⟨v0, v1, rfl, q0, q1⟩ := cells_two h2
      obtain ⟨xs, n, -, hxs, hl, hlen, hfd⟩ := DataW.trod_struct Try.underlying40 h3
      obtain ⟨y0, y1, rfl⟩ := two_of xs hlen
      have g0 : DataW.trod enc Try.prog w 0 (fun _ => true) true n 9 (([v0, v1].drop 0).take (Try.prog.cellsOf 9)) = some y0 := hfd 0 _ rfl
      rw [cellsS] at g0
      have g1 : DataW.trod enc Try.prog w 0 (fun _ => true) true n 3 (([v0, v1].drop 1).take (Try.prog.cellsOf 3)) = some y1 := hfd 1 _ rfl
      rw [cellsI] at g1
      obtain ⟨t0, e0, d0, _⟩ := DataW.trod_string Try.underlying9 (g0 : DataW.trod enc Try.prog w 0 (fun _ => true) true n 9 [v0] = some y0)
      obtain ⟨t1, e1, d1, _⟩ := DataW.trod_int Try.underlying3 (g1 : DataW.trod enc Try.prog w 0 (fun _ => true) true n 3 [v1] = some y1)
      cases e0; cases e1
      refine ⟨(bs t0, t1), hi2, by rw [q0, mk_bs], q1, ?_⟩
      rw [hxs]
      simp only [Rows.uptoBulk, Rows.uptoBulkAll, List.map_cons, List.map_nil, d0, d1]
      unfold bs
      omega
    obtain ⟨F, hF⟩ := Deep.choose_lt hch
    refine ⟨(List.range len).map F, ⟨some a, cap, by simp, by simpa using hlc, ?_⟩, ?_, fun hx => ?_⟩
    · rcases Nat.eq_zero_or_pos len with h0 | hp
      · left; rw [h0]; rfl
      · right
        have hs : a.spot = none := by
          obtain ⟨_, h1, _⟩ := hF 0 hp
          have := spot_none h1
          simpa [Addr.add] using this
        refine ⟨a.block, a.off, by obtain ⟨b, o, s⟩ := a; obtain rfl : s = none := hs; rfl, fun k hk => ?_⟩
        have hk' : k < len := by simpa using hk
        obtain ⟨_, h0, h1, _⟩ := hF k hk'
        rw [add_of hs, Addr.add_lit] at h0 h1
        simp only [List.getElem_map, List.getElem_range]
        exact ⟨h0, h1⟩
    · have := bulk_sum (elems.map (·.1)) (fun i => (fun p : Bs × Int => p.1.length + 1) (F i)) (fun i hi => by
        have hi' : i < len := by rw [List.length_map, hel] at hi; exact hi
        obtain ⟨_, _, _, h⟩ := hF i hi'
        rw [List.getElem_map]
        exact h)
      rw [List.length_map, hel] at this
      rw [List.map_map]
      simp only [Rows.uptoBulk]
      have e : ((fun p : Bs × Int => p.1.length + 1) ∘ F) = fun i => (fun p : Bs × Int => p.1.length + 1) (F i) := rfl
      rw [e]
      omega
    · have hl := hx ((elems.length + rest.length) * 24) (by simp [DataW.weights, Try.underlying24, bytesE])
      have hr : reachBytes = 140737488351232 := rfl
      simp
      omega

theorem openS (h : DataW.trod enc Try.prog w 0 (fun _ => true) true fuel 22 [c] = some x) : ∃ l : List Bs, SL TT w c l ∧ (l.map fun t => t.length + 1).sum + 1 ≤ Rows.uptoBulk x.1 ∧ ((∀ n ∈ x.1.weights Try.prog 22, n ≤ reachBytes) → l.length * 16 ≤ 140737488351232) := by
  rcases DataW.trod_slice Try.underlying22 h with ⟨e3, rfl⟩ | ⟨a, len, cap, elems, rest, m, rfl, e3, rfl, -, hlc, hcm, hel, hat, -, -⟩
  · cases e3; exact ⟨[], SL.nil _ _, bulk_one _, fun _ => by simp⟩
  · cases e3
    have hch : ∀ i, i < len → ∃ o : Bs, ∃ hi : i < elems.length, w.cell? ((a.add (i * 1)).add 0) = some (.string (mk o)) ∧ o.length + 1 ≤ Rows.uptoBulk (elems[i]).1 := by
      intro i hi
      have hi2 : i < elems.length := by omega
      have h1 := hat i hi
      rw [List.getElem?_eq_getElem hi2, cellsS] at h1
      obtain ⟨cs', h2, h3⟩ := Option.bind_eq_some_iff.1 h1
      obtain ⟨v0, rfl, q0⟩ := cells_one h2
      obtain ⟨t0, e0, d0, _⟩ := DataW.trod_string Try.underlying9 h3
      cases e0
      refine ⟨bs t0, hi2, by rw [q0, mk_bs], ?_⟩
      rw [d0]
      simp only [Rows.uptoBulk]
      unfold bs
      omega
    obtain ⟨F, hF⟩ := Deep.choose_lt hch
    refine ⟨(List.range len).map F, ⟨some a, cap, by simp, by simpa using hlc, ?_⟩, ?_, fun hx => ?_⟩
    · rcases Nat.eq_zero_or_pos len with h0 | hp
      · left; rw [h0]; rfl
      · right
        have hs : a.spot = none := by
          obtain ⟨_, h1, _⟩ := hF 0 hp
          have := spot_none h1
          simpa [Addr.add] using this
        refine ⟨a.block, a.off, by obtain ⟨b, o, s⟩ := a; obtain rfl : s = none := hs; rfl, trivial, fun k y hk => ?_⟩
        have hk' : k < len := by have := (List.getElem?_eq_some_iff.1 hk).1; simpa using this
        obtain ⟨_, h0, _⟩ := hF k hk'
        rw [add_of hs, Addr.add_lit] at h0
        rw [List.getElem?_map, List.getElem?_range hk'] at hk
        cases hk
        rw [Nat.mul_one, Nat.add_zero] at h0
        exact h0
    · have := bulk_sum (elems.map (·.1)) (fun i => (F i).length + 1) (fun i hi => by
        have hi' : i < len := by rw [List.length_map, hel] at hi; exact hi
        obtain ⟨_, _, h⟩ := hF i hi'
        rw [List.getElem_map]
        exact h)
      rw [List.length_map, hel] at this
      rw [List.map_map]
      simp only [Rows.uptoBulk]
      have e : ((fun t : Bs => t.length + 1) ∘ F) = fun i => (F i).length + 1 := rfl
      rw [e]
      omega
    · have hl := hx ((elems.length + rest.length) * 16) (by simp [DataW.weights, Try.underlying22, bytesS])
      have hr : reachBytes = 140737488351232 := rfl
      simp
      omega
end
structure Hold (x : Vl) (n : Nat) : Prop where
  all : x.text.length + (x.list.map fun t => t.length + 1).sum + (x.fields.map fun p => p.1.length + p.2.length + 1).sum + (x.ranked.map fun p => p.1.length + 1).sum ≤ n
theorem openV {H : Type} {enc : TypeId × Value → H} {w : World} {v : Value} {d : DataW H} {p : List MemPlace} (h : DataW.Trod enc Try.prog w 0 (fun _ => true) true 26 v d p) : ∃ x : Vl, VA w v x ∧ Hold x (Rows.uptoBulk d) ∧ ((∀ n ∈ d.weights Try.prog 26, n ≤ reachBytes) → Fit x) := by
  obtain ⟨fuel, hf⟩ := h
  obtain ⟨xs, n, -, hxs, hl, hlen, hfd⟩ := DataW.trod_struct Try.underlying26 hf
  rw [cells26] at hl
  obtain ⟨c0, c1, c2, c3, c4, hcs⟩ := five_of _ hl
  obtain ⟨y0, y1, y2, y3, y4, rfl⟩ := five_of xs hlen
  rw [hcs] at hfd
  have g0 : DataW.trod enc Try.prog w 0 (fun _ => true) true n 3 (([c0, c1, c2, c3, c4].drop 0).take (Try.prog.cellsOf 3)) = some y0 := hfd 0 _ rfl
  rw [cellsI] at g0
  have g1 : DataW.trod enc Try.prog w 0 (fun _ => true) true n 9 (([c0, c1, c2, c3, c4].drop 1).take (Try.prog.cellsOf 9)) = some y1 := hfd 1 _ rfl
  rw [cellsS] at g1
  have g2 : DataW.trod enc Try.prog w 0 (fun _ => true) true n 22 (([c0, c1, c2, c3, c4].drop 2).take (Try.prog.cellsOf 22)) = some y2 := hfd 2 _ rfl
  rw [cells22] at g2
  have g3 : DataW.trod enc Try.prog w 0 (fun _ => true) true n 23 (([c0, c1, c2, c3, c4].drop 3).take (Try.prog.cellsOf 23)) = some y3 := hfd 3 _ rfl
  rw [cells23] at g3
  have g4 : DataW.trod enc Try.prog w 0 (fun _ => true) true n 24 (([c0, c1, c2, c3, c4].drop 4).take (Try.prog.cellsOf 24)) = some y4 := hfd 4 _ rfl
  rw [cells24] at g4
  obtain ⟨k0, e0, d0, -⟩ := DataW.trod_int Try.underlying3 (g0 : DataW.trod enc Try.prog w 0 (fun _ => true) true n 3 [c0] = some y0)
  obtain ⟨t1, e1, d1, -⟩ := DataW.trod_string Try.underlying9 (g1 : DataW.trod enc Try.prog w 0 (fun _ => true) true n 9 [c1] = some y1)
  obtain ⟨l2, s2, b2, w2⟩ := openS (g2 : DataW.trod enc Try.prog w 0 (fun _ => true) true n 22 [c2] = some y2)
  obtain ⟨l3, s3, b3, w3⟩ := openF (g3 : DataW.trod enc Try.prog w 0 (fun _ => true) true n 23 [c3] = some y3)
  obtain ⟨l4, s4, b4, w4⟩ := openE (g4 : DataW.trod enc Try.prog w 0 (fun _ => true) true n 24 [c4] = some y4)
  cases e0; cases e1
  have hxs' : d = .agg ([y0, y1, y2, y3, y4].map (·.1)) := congrArg Prod.fst hxs
  have b3' : (List.map (fun p : Bs × Bs => p.1.length + p.2.length + 1) (l3 : FL)).sum + 1 ≤ Rows.uptoBulk y3.1 := b3
  have b4' : (List.map (fun p : Bs × Int => p.1.length + 1) (l4 : EL)).sum + 1 ≤ Rows.uptoBulk y4.1 := b4
  refine ⟨⟨k0, bs t1, l2, l3, l4⟩, ⟨c2, c3, c4, ?_, s2, s3, s4⟩, ⟨?_⟩, fun hw => ?_⟩
  · rw [mk_bs]; exact agg_of hcs
  · rw [hxs']
    simp only [Rows.uptoBulk, Rows.uptoBulkAll, List.map_cons, List.map_nil]
    have h1 := bulk_one y0.1
    have h2 : (bs t1).length + 1 ≤ Rows.uptoBulk y1.1 := by rw [d1]; simp only [Rows.uptoBulk]; unfold bs; omega
    omega
  · rw [hxs'] at hw
    have hm : ∀ n, n ∈ y2.1.weights Try.prog 22 ∨ n ∈ y3.1.weights Try.prog 23 ∨ n ∈ y4.1.weights Try.prog 24 → n ≤ reachBytes := fun n hn => hw n (by
      simp only [DataW.weights, Try.underlying26, List.map_cons, List.map_nil, DataW.weightsEach]
      simp [DataW.weightsEach]
      rcases hn with q | q | q
      · exact Or.inr (Or.inr (Or.inl q))
      · exact Or.inr (Or.inr (Or.inr (Or.inl q)))
      · exact Or.inr (Or.inr (Or.inr (Or.inr q))))
    have f2 := w2 fun n hn => hm n (Or.inl hn)
    have f3 := w3 fun n hn => hm n (Or.inr (Or.inl hn))
    have f4 := w4 fun n hn => hm n (Or.inr (Or.inr hn))
    exact ⟨by show l2.length * 16 ≤ _; omega, by show List.length l3 ≤ FRow.big; unfold FRow.big; omega, by show List.length l4 ≤ ERow.big; unfold ERow.big; omega⟩
/- what is small is nice -/
theorem sum_len {α : Type} (f : α → Nat) (l : List α) (h : ∀ x ∈ l, 1 ≤ f x) : l.length ≤ (l.map f).sum := by
  induction l with
  | nil => simp
  | cons x r ih =>
    have h1 := h x List.mem_cons_self
    have h2 := ih fun y hy => h y (List.mem_cons_of_mem _ hy)
    simp
    omega
theorem sum_mem {α : Type} (f : α → Nat) {l : List α} {x : α} (h : x ∈ l) : f x ≤ (l.map f).sum := by
  induction l with
  | nil => cases h
  | cons y r ih =>
    rcases List.mem_cons.1 h with rfl | h
    · simp
    · have := ih h; simp; omega
theorem flat_le {α : Type} (g : α → Bs) (f : α → Nat) (k : Nat) (l : List α) (h : ∀ x ∈ l, (g x).length ≤ k * f x) : (l.flatMap g).length ≤ k * (l.map f).sum := by
  induction l with
  | nil => simp
  | cons y r ih =>
    have h1 := h y List.mem_cons_self
    have h2 := ih fun z hz => h z (List.mem_cons_of_mem _ hz)
    rw [List.flatMap_cons, List.length_append, List.map_cons, List.sum_cons, Nat.mul_add]
    omega
theorem nice {x : Vl} {n : Nat} (h : Hold x n) (hn : n ≤ 1048576) : Apart.Nc x := by
  have ha := h.all
  have l1 := sum_len (fun t : Bs => t.length + 1) x.list (fun _ _ => by omega)
  have l2 := sum_len (fun p : Bs × Bs => p.1.length + p.2.length + 1) x.fields (fun _ _ => by omega)
  have l3 := sum_len (fun p : Bs × Int => p.1.length + 1) x.ranked (fun _ _ => by omega)
  have m1 := fun t (ht : t ∈ x.list) => sum_mem (fun t : Bs => t.length + 1) ht
  have m2 := fun t (ht : t ∈ x.fields) => sum_mem (fun p : Bs × Bs => p.1.length + p.2.length + 1) ht
  have m3 := fun t (ht : t ∈ x.ranked) => sum_mem (fun p : Bs × Int => p.1.length + 1) ht
  have hs : small x := ⟨by omega, by omega, by omega⟩
  have hw : Check0.Wel x := Dec.wel_of hs ⟨by omega, fun y hy => by have := m1 y hy; omega, fun p hp => by have := m2 p hp; exact ⟨by omega, by omega⟩, fun p hp => by have := m3 p hp; omega⟩
  refine ⟨hw, hs, ?_⟩
  have f1 := flat_le encT (fun t : Bs => t.length + 1) 12 x.list (fun t _ => by rw [Write.encT_len]; omega)
  have f2 := flat_le encF (fun p : Bs × Bs => p.1.length + p.2.length + 1) 12 x.fields (fun t _ => by rw [Write2.encF_len]; omega)
  have f3 := flat_le encE (fun p : Bs × Int => p.1.length + 1) 12 x.ranked (fun t _ => by rw [Write2.encE_len]; omega)
  have hB : (encB x).length ≤ 4 + 13 * 1048576 := by
    unfold encB
    split
    · rw [Write.encT_len]; omega
    · split
      · unfold encC; rw [List.length_append, len_le4]; omega
      · split
        · unfold encC; rw [List.length_append, len_le4]; omega
        · unfold encC; rw [List.length_append, len_le4]; omega
  unfold enc
  rw [List.length_cons]
  omega
end Go.Proofs.Ytdcnkdkhanmklab.OpenV
