/- From what a value reads as to its cells, and how much it holds. -/
import Derived.Test.YtpnigkjmofhmbabGreatFTwinM
import Derived.Test.YtpnigkjmofhmbabGreatEEncM
import Derived.Test.YtpnigkjmofhmbabGreatRows
import Derived.Carry
import Derived.ProofKit
import Derived.Deep.Slices
namespace Go.Proofs.YtpnigkjmofhmbabGreat.OpenY
open Go.ChangeShapes Go.WideShapes Go.RowKit
open Go.Proofs.YtpnigkjmofhmbabGreat.SetMath
open Go.Proofs.YtpnigkjmofhmbabGreat.ValueMath
open Go.Proofs.YtpnigkjmofhmbabGreat.Base
open Go.Proofs.YtpnigkjmofhmbabGreat.Vals
set_option linter.unusedVariables false
set_option linter.unusedSimpArgs false
theorem laidOut : laidOutB Tryz.prog = true := by kernel_rfl
theorem cellsS : Tryz.prog.cellsOf 9 = 1 := by kernel_rfl
theorem cellsI : Tryz.prog.cellsOf 3 = 1 := by kernel_rfl
theorem cellsF : Tryz.prog.cellsOf 118 = 2 := by kernel_rfl
theorem cellsE : Tryz.prog.cellsOf 120 = 2 := by kernel_rfl
theorem cells22 : Tryz.prog.cellsOf 34 = 1 := by kernel_rfl
theorem cells23 : Tryz.prog.cellsOf 35 = 1 := by kernel_rfl
theorem cells24 : Tryz.prog.cellsOf 36 = 1 := by kernel_rfl
theorem cells26 : Tryz.prog.cellsOf 38 = 5 := by kernel_rfl
theorem bytesS : Tryz.prog.bytesOf 9 = 16 := by kernel_rfl
theorem bytesF : Tryz.prog.bytesOf 118 = 32 := by kernel_rfl
theorem bytesE : Tryz.prog.bytesOf 120 = 24 := by kernel_rfl
theorem spot_none {w : World} {a : Addr} {v : Value} (h : w.cell? a = some v) : a.spot = none := by
  unfold World.cell? at h
  rcases hh : w.heap[a.block]? with _ | o
  · rw [hh] at h; cases h
  · rw [hh] at h
    cases o with
    | cells c ty fz =>
      cases hs : a.spot with
      | none => rfl
      | some s => simp [hs] at h
    | _ => cases h
theorem cells_one {w : World} {a : Addr} {cs : List Value} (h : w.cells? 0 a 1 = some cs) : ∃ v0, cs = [v0] ∧ w.cell? (a.add 0) = some v0 := by
  unfold World.cells? at h
  rw [if_pos (Nat.zero_le _)] at h
  simp only [List.range_succ, List.range_zero, List.nil_append, List.mapM_cons, List.mapM_nil] at h
  cases h0 : w.cell? (a.add 0) with
  | none => rw [h0] at h; simp at h
  | some v0 => rw [h0] at h; simp at h; exact ⟨v0, h.symm, rfl⟩
theorem cells_two {w : World} {a : Addr} {cs : List Value} (h : w.cells? 0 a 2 = some cs) : ∃ v0 v1, cs = [v0, v1] ∧ w.cell? (a.add 0) = some v0 ∧ w.cell? (a.add 1) = some v1 := by
  unfold World.cells? at h
  rw [if_pos (Nat.zero_le _)] at h
  simp only [List.range_succ, List.range_zero, List.nil_append, List.cons_append, List.mapM_cons, List.mapM_nil] at h
  cases h0 : w.cell? (a.add 0) with
  | none => rw [h0] at h; simp at h
  | some v0 =>
    cases h1 : w.cell? (a.add 1) with
    | none => rw [h0, h1] at h; simp at h
    | some v1 => rw [h0, h1] at h; simp at h; exact ⟨v0, v1, h.symm, rfl, rfl⟩
theorem two_of {α : Type} (l : List α) (h : l.length = 2) : ∃ a0 a1, l = [a0, a1] := by
  match l, h with
  | [a0, a1], _ => exact ⟨a0, a1, rfl⟩
theorem five_of {α : Type} (l : List α) (h : l.length = 5) : ∃ a b c d e, l = [a, b, c, d, e] := by
  match l, h with
  | [a, b, c, d, e], _ => exact ⟨a, b, c, d, e, rfl⟩
theorem agg_of {v : Value} {c0 c1 c2 c3 c4 : Value} (h : v.cells.toList = [c0, c1, c2, c3, c4]) : v = .agg #[c0, c1, c2, c3, c4] := by
  cases v with
  | agg cs =>
    have : cs = #[c0, c1, c2, c3, c4] := by
      apply Array.toList_inj.1
      exact h
    rw [this]
  | _ => simp [Value.cells] at h
theorem bulk_one {H : Type} (d : DataW H) : 1 ≤ Rows.uptoBulk d := by
  cases d with
  | lit l => cases l <;> simp only [Rows.uptoBulk] <;> omega
  | _ => simp only [Rows.uptoBulk] <;> omega
theorem bulk_sum {H : Type} : ∀ (l : List (DataW H)) (f : Nat → Nat), (∀ i (h : i < l.length), f i ≤ Rows.uptoBulk l[i]) → ((List.range l.length).map f).sum ≤ Rows.uptoBulkAll l
  | [], f, h => Nat.zero_le _
  | d :: l, f, h => by
    have ih := bulk_sum l (fun i => f (i + 1)) (fun i hi => h (i + 1) (Nat.succ_lt_succ hi))
    have h0 : f 0 ≤ Rows.uptoBulk d := h 0 (Nat.succ_pos _)
    rw [List.length_cons, List.range_succ_eq_map, List.map_cons, List.sum_cons, List.map_map, Rows.uptoBulkAll]
    have e : (List.range l.length).map (f ∘ Nat.succ) = (List.range l.length).map (fun i => f (i + 1)) := rfl
    rw [e]
    omega
theorem add_of {a : Addr} (h : a.spot = none) (k : Nat) : a.add k = ⟨a.block, a.off + k, none⟩ := by
  obtain ⟨b, o, s⟩ := a
  obtain rfl : s = none := h
  exact Addr.add_lit b o k
section
variable {H : Type} {enc : TypeId × Value → H} {w : World} {fuel : Nat} {c : Value} {x : DataW H × List MemPlace}

theorem openF (h : DataW.trod enc Tryz.prog w 0 (fun _ => true) true fuel 35 [c] = some x) : ∃ l : FRow.LL, FRow.FS w c l ∧ (l.map fun p => p.1.length + p.2.length + 1).sum + 1 ≤ Rows.uptoBulk x.1 ∧ ((∀ n ∈ x.1.weights Tryz.prog 35, n ≤ reachBytes) → l.length * 32 ≤ 140737488351232) := by
  rcases DataW.trod_slice Tryz.underlying35 h with ⟨e3, rfl⟩ | ⟨a, len, cap, elems, rest, m, rfl, e3, rfl, -, hlc, hcm, hel, hat, -, -⟩
  · cases e3; exact ⟨[], ⟨none, 0, rfl, Nat.le_refl _, Or.inl rfl⟩, bulk_one _, fun _ => by simp⟩
  · cases e3
    have hch : ∀ i, i < len → ∃ o : Bs × Bs, ∃ hi : i < elems.length, w.cell? ((a.add (i * 2)).add 0) = some (.string (mk o.1)) ∧ w.cell? ((a.add (i * 2)).add 1) = some (.string (mk o.2)) ∧ (fun p : Bs × Bs => p.1.length + p.2.length + 1) o ≤ Rows.uptoBulk (elems[i]).1 := by
      intro i hi
      have hi2 : i < elems.length := by omega
      have h1 := hat i hi
      rw [List.getElem?_eq_getElem hi2, cellsF] at h1
      obtain ⟨cs', h2, h3⟩ := Option.bind_eq_some_iff.1 h1
      obtain ⟨v0, v1, rfl, q0, q1⟩ := cells_two h2
      obtain ⟨xs, n, -, hxs, hl, hlen, hfd⟩ := DataW.trod_struct Tryz.underlying118 h3
      obtain ⟨y0, y1, rfl⟩ := two_of xs hlen
      have g0 : DataW.trod enc Tryz.prog w 0 (fun _ => true) true n 9 (([v0, v1].drop 0).take (Tryz.prog.cellsOf 9)) = some y0 := hfd 0 _ rfl
      rw [cellsS] at g0
      have g1 : DataW.trod enc Tryz.prog w 0 (fun _ => true) true n 9 (([v0, v1].drop 1).take (Tryz.prog.cellsOf 9)) = some y1 := hfd 1 _ rfl
      rw [cellsS] at g1
      obtain ⟨t0, e0, d0, _⟩ := DataW.trod_string Tryz.underlying9 (g0 : DataW.trod enc Tryz.prog w 0 (fun _ => true) true n 9 [v0] = some y0)
      obtain ⟨t1, e1, d1, _⟩ := DataW.trod_string Tryz.underlying9 (g1 : DataW.trod enc Tryz.prog w 0 (fun _ => true) true n 9 [v1] = some y1)
      cases e0; cases e1
      refine ⟨(bs t0, bs t1), hi2, by rw [q0, mk_bs], by rw [q1, mk_bs], ?_⟩
      rw [hxs]
      simp only [Rows.uptoBulk, Rows.uptoBulkAll, List.map_cons, List.map_nil, d0, d1]
      unfold bs
      omega
    obtain ⟨F, hF⟩ := Deep.choose_lt hch
    refine ⟨(List.range len).map F, ⟨some a, cap, by simp, by simpa using hlc, ?_⟩, ?_, fun hx => ?_⟩
    · rcases Nat.eq_zero_or_pos len with h0 | hp
      · left; rw [h0]; rfl
      · right
        have hs : a.spot = none := by
          obtain ⟨_, h1, _⟩ := hF 0 hp
          have := spot_none h1
          simpa [Addr.add] using this
        refine ⟨a.block, a.off, by obtain ⟨b, o, s⟩ := a; obtain rfl : s = none := hs; rfl, fun k hk => ?_⟩
        have hk' : k < len := by simpa using hk
        obtain ⟨_, h0, h1, _⟩ := hF k hk'
        rw [add_of hs, Addr.add_lit] at h0 h1
        simp only [List.getElem_map, List.getElem_range]
        exact ⟨h0, h1⟩
    · have := bulk_sum (elems.map (·.1)) (fun i => (fun p : Bs × Bs => p.1.length + p.2.length + 1) (F i)) (fun i hi => by
        have hi' : i < len := by rw [List.length_map, hel] at hi; exact hi
        obtain ⟨_, _, _, h⟩ := hF i hi'
        rw [List.getElem_map]
        exact h)
      rw [List.length_map, hel] at this
      rw [List.map_map]
      simp only [Rows.uptoBulk]
      have e : ((fun p : Bs × Bs => p.1.length + p.2.length + 1) ∘ F) = fun i => (fun p : Bs × Bs => p.1.length + p.2.length + 1) (F i) := rfl
      rw [e]
      omega
    · have hl := hx ((elems.length + rest.length) * 32) (by simp [DataW.weights, Tryz.underlying35, bytesF])
      have hr : reachBytes = 140737488351232 := rfl
      simp
      omega

theorem openE (h : DataW.trod enc Tryz.prog w 0 (fun _ => true) true fuel 36 [c] = some x) : ∃ l : ERow.LL, ERow.FS w c l ∧ (l.map fun p => p.1.length + 1).sum + 1 ≤ Rows.uptoBulk x.1 ∧ ((∀ n ∈ x.1.weights Tryz.prog 36, n ≤ reachBytes) → l.length * 24 ≤ 140737488351232) := by
  rcases DataW.trod_slice Tryz.underlying36 h with ⟨e3, rfl⟩ | ⟨a, len, cap, elems, rest, m, rfl, e3, rfl, -, hlc, hcm, hel, hat, -, -⟩
  · cases e3; exact ⟨[], ⟨none, 0, rfl, Nat.le_refl _, Or.inl rfl⟩, bulk_one _, fun _ => by simp⟩
  · cases e3
    have hch : ∀ i, i < len → ∃ o : Bs × Int, ∃ hi : i < elems.length, w.cell? ((a.add (i * 2)).add 0) = some (.string (mk o.1)) ∧ w.cell? ((a.add (i * 2)).add 1) = some (.int .i64 o.2) ∧ (fun p : Bs × Int => p.1.length + 1) o ≤ Rows.uptoBulk (elems[i]).1 := by
      intro i hi
      have hi2 : i < elems.length := by omega
      have h1 := hat i hi
      rw [List.getElem?_eq_getElem hi2, cellsE] at h1
      obtain ⟨cs', h2, h3⟩ := Option.bind_eq_some_iff.1 h1
      obtain ⟨v0, v1, rfl, q0, q1⟩ := cells_two h2
      obtain ⟨xs, n, -, hxs, hl, hlen, hfd⟩ := DataW.trod_struct Tryz.underlying120 h3
      obtain ⟨y0, y1, rfl⟩ := two_of xs hlen
      have g0 : DataW.trod enc Tryz.prog w 0 (fun _ => true) true n 9 (([v0, v1].drop 0).take (Tryz.prog.cellsOf 9)) = some y0 := hfd 0 _ rfl
      rw [cellsS] at g0
      have g1 : DataW.trod enc Tryz.prog w 0 (fun _ => true) true n 3 (([v0, v1].drop 1).take (Tryz.prog.cellsOf 3)) = some y1 := hfd 1 _ rfl
      rw [cellsI] at g1
      obtain ⟨t0, e0, d0, _⟩ := DataW.trod_string Tryz.underlying9 (g0 : DataW.trod enc Tryz.prog w 0 (fun _ => true) true n 9 [v0] = some y0)
      obtain ⟨t1, e1, d1, _⟩ := DataW.trod_int Tryz.underlying3 (g1 : DataW.trod enc Tryz.prog w 0 (fun _ => true) true n 3 [v1] = some y1)
      cases e0; cases e1
      refine ⟨(bs t0, t1), hi2, by rw [q0, mk_bs], q1, ?_⟩
      rw [hxs]
      simp only [Rows.uptoBulk, Rows.uptoBulkAll, List.map_cons, List.map_nil, d0, d1]
      unfold bs
      omega
    obtain ⟨F, hF⟩ := Deep.choose_lt hch
    refine ⟨(List.range len).map F, ⟨some a, cap, by simp, by simpa using hlc, ?_⟩, ?_, fun hx => ?_⟩
    · rcases Nat.eq_zero_or_pos len with h0 | hp
      · left; rw [h0]; rfl
      · right
        have hs : a.spot = none := by
          obtain ⟨_, h1, _⟩ := hF 0 hp
          have := spot_none h1
          simpa [Addr.add] using this
        refine ⟨a.block, a.off, by obtain ⟨b, o, s⟩ := a; obtain rfl : s = none := hs; rfl, fun k hk => ?_⟩
        have hk' : k < len := by simpa using hk
        obtain ⟨_, h0, h1, _⟩ := hF k hk'
        rw [add_of hs, Addr.add_lit] at h0 h1
        simp only [List.getElem_map, List.getElem_range]
        exact ⟨h0, h1⟩
    · have := bulk_sum (elems.map (·.1)) (fun i => (fun p : Bs × Int => p.1.length + 1) (F i)) (fun i hi => by
        have hi' : i < len := by rw [List.length_map, hel] at hi; exact hi
        obtain ⟨_, _, _, h⟩ := hF i hi'
        rw [List.getElem_map]
        exact h)
      rw [List.length_map, hel] at this
      rw [List.map_map]
      simp only [Rows.uptoBulk]
      have e : ((fun p : Bs × Int => p.1.length + 1) ∘ F) = fun i => (fun p : Bs × Int => p.1.length + 1) (F i) := rfl
      rw [e]
      omega
    · have hl := hx ((elems.length + rest.length) * 24) (by simp [DataW.weights, Tryz.underlying36, bytesE])
      have hr : reachBytes = 140737488351232 := rfl
      simp
      omega

theorem openS (h : DataW.trod enc Tryz.prog w 0 (fun _ => true) true fuel 34 [c] = some x) : ∃ l : List Bs, SL TT w c l ∧ (l.map fun t => t.length + 1).sum + 1 ≤ Rows.uptoBulk x.1 ∧ ((∀ n ∈ x.1.weights Tryz.prog 34, n ≤ reachBytes) → l.length * 16 ≤ 140737488351232) := by
  rcases DataW.trod_slice Tryz.underlying34 h with ⟨e3, rfl⟩ | ⟨a, len, cap, elems, rest, m, rfl, e3, rfl, -, hlc, hcm, hel, hat, -, -⟩
  · cases e3; exact ⟨[], SL.nil _ _, bulk_one _, fun _ => by simp⟩
  · cases e3
    have hch : ∀ i, i < len → ∃ o : Bs, ∃ hi : i < elems.length, w.cell? ((a.add (i * 1)).add 0) = some (.string (mk o)) ∧ o.length + 1 ≤ Rows.uptoBulk (elems[i]).1 := by
      intro i hi
      have hi2 : i < elems.length := by omega
      have h1 := hat i hi
      rw [List.getElem?_eq_getElem hi2, cellsS] at h1
      obtain ⟨cs', h2, h3⟩ := Option.bind_eq_some_iff.1 h1
      obtain ⟨v0, rfl, q0⟩ := cells_one h2
      obtain ⟨t0, e0, d0, _⟩ := DataW.trod_string Tryz.underlying9 h3
      cases e0
      refine ⟨bs t0, hi2, by rw [q0, mk_bs], ?_⟩
      rw [d0]
      simp only [Rows.uptoBulk]
      unfold bs
      omega
    obtain ⟨F, hF⟩ := Deep.choose_lt hch
    refine ⟨(List.range len).map F, ⟨some a, cap, by simp, by simpa using hlc, ?_⟩, ?_, fun hx => ?_⟩
    · rcases Nat.eq_zero_or_pos len with h0 | hp
      · left; rw [h0]; rfl
      · right
        have hs : a.spot = none := by
          obtain ⟨_, h1, _⟩ := hF 0 hp
          have := spot_none h1
          simpa [Addr.add] using this
        refine ⟨a.block, a.off, by obtain ⟨b, o, s⟩ := a; obtain rfl : s = none := hs; rfl, trivial, fun k y hk => ?_⟩
        have hk' : k < len := by have := (List.getElem?_eq_some_iff.1 hk).1; simpa using this
        obtain ⟨_, h0, _⟩ := hF k hk'
        rw [add_of hs, Addr.add_lit] at h0
        rw [List.getElem?_map, List.getElem?_range hk'] at hk
        cases hk
        rw [Nat.mul_one, Nat.add_zero] at h0
        exact h0
    · have := bulk_sum (elems.map (·.1)) (fun i => (F i).length + 1) (fun i hi => by
        have hi' : i < len := by rw [List.length_map, hel] at hi; exact hi
        obtain ⟨_, _, h⟩ := hF i hi'
        rw [List.getElem_map]
        exact h)
      rw [List.length_map, hel] at this
      rw [List.map_map]
      simp only [Rows.uptoBulk]
      have e : ((fun t : Bs => t.length + 1) ∘ F) = fun i => (F i).length + 1 := rfl
      rw [e]
      omega
    · have hl := hx ((elems.length + rest.length) * 16) (by simp [DataW.weights, Tryz.underlying34, bytesS])
      have hr : reachBytes = 140737488351232 := rfl
      simp
      omega
end
structure Hold (x : Vl) (n : Nat) : Prop where
  all : x.text.length + (x.list.map fun t => t.length + 1).sum + (x.fields.map fun p => p.1.length + p.2.length + 1).sum + (x.ranked.map fun p => p.1.length + 1).sum ≤ n
theorem openV5 {H : Type} {enc : TypeId × Value → H} {w : World} {fuel : Nat} {c0 c1 c2 c3 c4 : Value} {x : DataW H × List MemPlace} (hf : DataW.trod enc Tryz.prog w 0 (fun _ => true) true fuel 38 [c0, c1, c2, c3, c4] = some x) : ∃ v : Vl, VA w (.agg #[c0, c1, c2, c3, c4]) v ∧ Hold v (Rows.uptoBulk x.1) := by
  obtain ⟨xs, n, -, hxs, hl, hlen, hfd⟩ := DataW.trod_struct Tryz.underlying38 hf
  obtain ⟨y0, y1, y2, y3, y4, rfl⟩ := five_of xs hlen
  have g0 : DataW.trod enc Tryz.prog w 0 (fun _ => true) true n 3 (([c0, c1, c2, c3, c4].drop 0).take (Tryz.prog.cellsOf 3)) = some y0 := hfd 0 _ rfl
  rw [cellsI] at g0
  have g1 : DataW.trod enc Tryz.prog w 0 (fun _ => true) true n 9 (([c0, c1, c2, c3, c4].drop 1).take (Tryz.prog.cellsOf 9)) = some y1 := hfd 1 _ rfl
  rw [cellsS] at g1
  have g2 : DataW.trod enc Tryz.prog w 0 (fun _ => true) true n 34 (([c0, c1, c2, c3, c4].drop 2).take (Tryz.prog.cellsOf 34)) = some y2 := hfd 2 _ rfl
  rw [cells22] at g2
  have g3 : DataW.trod enc Tryz.prog w 0 (fun _ => true) true n 35 (([c0, c1, c2, c3, c4].drop 3).take (Tryz.prog.cellsOf 35)) = some y3 := hfd 3 _ rfl
  rw [cells23] at g3
  have g4 : DataW.trod enc Tryz.prog w 0 (fun _ => true) true n 36 (([c0, c1, c2, c3, c4].drop 4).take (Tryz.prog.cellsOf 36)) = some y4 := hfd 4 _ rfl
  rw [cells24] at g4
  obtain ⟨k0, e0, d0, -⟩ := DataW.trod_int Tryz.underlying3 (g0 : DataW.trod enc Tryz.prog w 0 (fun _ => true) true n 3 [c0] = some y0)
  obtain ⟨t1, e1, d1, -⟩ := DataW.trod_string Tryz.underlying9 (g1 : DataW.trod enc Tryz.prog w 0 (fun _ => true) true n 9 [c1] = some y1)
  obtain ⟨l2, s2, b2, w2⟩ := openS (g2 : DataW.trod enc Tryz.prog w 0 (fun _ => true) true n 34 [c2] = some y2)
  obtain ⟨l3, s3, b3, w3⟩ := openF (g3 : DataW.trod enc Tryz.prog w 0 (fun _ => true) true n 35 [c3] = some y3)
  obtain ⟨l4, s4, b4, w4⟩ := openE (g4 : DataW.trod enc Tryz.prog w 0 (fun _ => true) true n 36 [c4] = some y4)
  cases e0; cases e1
  have hxs' : x.1 = .agg ([y0, y1, y2, y3, y4].map (·.1)) := congrArg Prod.fst hxs
  have b3' : (List.map (fun p : Bs × Bs => p.1.length + p.2.length + 1) (l3 : FL)).sum + 1 ≤ Rows.uptoBulk y3.1 := b3
  have b4' : (List.map (fun p : Bs × Int => p.1.length + 1) (l4 : EL)).sum + 1 ≤ Rows.uptoBulk y4.1 := b4
  refine ⟨⟨k0, bs t1, l2, l3, l4⟩, ⟨c2, c3, c4, by rw [mk_bs], s2, s3, s4⟩, ⟨?_⟩⟩
  rw [hxs']
  simp only [Rows.uptoBulk, Rows.uptoBulkAll, List.map_cons, List.map_nil]
  have h1 := bulk_one y0.1
  have h2 : (bs t1).length + 1 ≤ Rows.uptoBulk y1.1 := by rw [d1]; simp only [Rows.uptoBulk]; unfold bs; omega
  omega
structure Nc (x : Vl) : Prop where
  wel : Check0.Wel x
  sm : small x
  len : (enc x).length ≤ 16777216
theorem bulk_len {H : Type} : ∀ l : List (DataW H), l.length ≤ Rows.uptoBulkAll l
  | [] => Nat.zero_le _
  | d :: l => by
    have := bulk_len l
    have := bulk_one d
    rw [List.length_cons, Rows.uptoBulkAll]
    omega
theorem bulk_at {H : Type} : ∀ (l : List (DataW H)) (i : Nat) (h : i < l.length), Rows.uptoBulk l[i] ≤ Rows.uptoBulkAll l
  | d :: l, 0, h => by
    rw [Rows.uptoBulkAll]
    exact Nat.le_add_right _ _
  | d :: l, i + 1, h => by
    have := bulk_at l i (by simpa using h)
    rw [Rows.uptoBulkAll]
    simp only [List.getElem_cons_succ]
    omega
theorem Hold.mono {x : Vl} {n m : Nat} (h : Hold x n) (hm : n ≤ m) : Hold x m := ⟨Nat.le_trans h.all hm⟩
theorem sumR : ∀ es : List Nat, ((List.range es.length).map fun i => es[i]?.getD 0).sum = es.sum
  | [] => rfl
  | e :: es => by
    have := sumR es
    rw [List.length_cons, List.range_succ_eq_map, List.map_cons, List.map_map, List.sum_cons, List.sum_cons]
    show e + ((List.range es.length).map fun i => es[i]?.getD 0).sum = _
    rw [this]
theorem bulk_all {H : Type} : ∀ l : List (DataW H), Rows.uptoBulkAll l = (l.map Rows.uptoBulk).sum
  | [] => rfl
  | d :: l => by rw [Rows.uptoBulkAll, bulk_all l, List.map_cons, List.sum_cons]
theorem cells_eight {w : World} {a : Addr} {cs : List Value} (h : w.cells? 0 a 8 = some cs) : ∃ v0 v1 v2 v3 v4 v5 v6 v7, cs = [v0, v1, v2, v3, v4, v5, v6, v7] ∧ w.cell? (a.add 0) = some v0 ∧ w.cell? (a.add 1) = some v1 ∧ w.cell? (a.add 2) = some v2 ∧ w.cell? (a.add 3) = some v3 ∧ w.cell? (a.add 4) = some v4 ∧ w.cell? (a.add 5) = some v5 ∧ w.cell? (a.add 6) = some v6 ∧ w.cell? (a.add 7) = some v7 := by
  unfold World.cells? at h
  rw [if_pos (Nat.zero_le _)] at h
  simp only [List.range_succ, List.range_zero, List.nil_append, List.cons_append, List.mapM_cons, List.mapM_nil] at h
  cases h0 : w.cell? (a.add 0) with
  | none => rw [h0] at h; simp at h
  | some v0 =>
    cases h1 : w.cell? (a.add 1) with
    | none => rw [h0, h1] at h; simp at h
    | some v1 =>
      cases h2 : w.cell? (a.add 2) with
      | none => rw [h0, h1, h2] at h; simp at h
      | some v2 =>
        cases h3 : w.cell? (a.add 3) with
        | none => rw [h0, h1, h2, h3] at h; simp at h
        | some v3 =>
          cases h4 : w.cell? (a.add 4) with
          | none => rw [h0, h1, h2, h3, h4] at h; simp at h
          | some v4 =>
            cases h5 : w.cell? (a.add 5) with
            | none => rw [h0, h1, h2, h3, h4, h5] at h; simp at h
            | some v5 =>
              cases h6 : w.cell? (a.add 6) with
              | none => rw [h0, h1, h2, h3, h4, h5, h6] at h; simp at h
              | some v6 =>
                cases h7 : w.cell? (a.add 7) with
                | none => rw [h0, h1, h2, h3, h4, h5, h6, h7] at h; simp at h
                | some v7 =>
                  rw [h0, h1, h2, h3, h4, h5, h6, h7] at h; simp at h; exact ⟨v0, v1, v2, v3, v4, v5, v6, v7, h.symm, rfl, rfl, rfl, rfl, rfl, rfl, rfl, rfl⟩
theorem four_of {α : Type} (l : List α) (h : l.length = 4) : ∃ a0 a1 a2 a3, l = [a0, a1, a2, a3] := by
  match l, h with
  | [a0, a1, a2, a3], _ => exact ⟨a0, a1, a2, a3, rfl⟩
theorem cells78 : Tryz.prog.cellsOf 40 = 8 := by kernel_rfl
theorem open_effects {H : Type} {enc : TypeId × Value → H} {w : World} {fuel : Nat} {c : Value} {x : DataW H × List MemPlace} (h : DataW.trod enc Tryz.prog w 0 (fun _ => true) true fuel 22 [c] = some x) : ∃ l : List SBase.Ef, EAll.FSl w c l ∧ l.length ≤ Rows.uptoBulk x.1 ∧ (∀ f ∈ l, f.key.length ≤ Rows.uptoBulk x.1 ∧ Hold f.val (Rows.uptoBulk x.1)) ∧ ∃ wt : Nat → Nat, (∀ i (h : i < l.length), (l[i]'h).key.length ≤ wt i ∧ Hold (l[i]'h).val (wt i)) ∧ ((List.range l.length).map wt).sum ≤ Rows.uptoBulk x.1 := by
  rcases DataW.trod_slice Tryz.underlying22 h with ⟨e3, rfl⟩ | ⟨a, len, cap, elems, rest, m, rfl, e3, rfl, -, hlc, hcm, hel, hat, -, -⟩
  · cases e3; exact ⟨[], ⟨none, 0, rfl, Nat.le_refl _, .inl rfl⟩, Nat.zero_le _, (fun y hy => by cases hy), fun _ => 0, (fun i h => by simp at h), by simp⟩
  · cases e3
    have hch : ∀ i, i < len → ∃ o : SBase.Ef, ∃ hi : i < elems.length, (∃ b1 m1 d1 b2 m2 d2 b3 m3 d3 j2 U, w.cell? ((a.add (i * 8)).add 0) = some (.int .i64 o.kind) ∧ w.cell? ((a.add (i * 8)).add 1) = some (.string (mk o.key)) ∧ w.cell? ((a.add (i * 8)).add 2) = some (.int .i64 j2) ∧ w.cell? ((a.add (i * 8)).add 3) = some (.string U) ∧ w.cell? ((a.add (i * 8)).add 4) = some (.slice b1 m1 d1) ∧ w.cell? ((a.add (i * 8)).add 5) = some (.slice b2 m2 d2) ∧ w.cell? ((a.add (i * 8)).add 6) = some (.slice b3 m3 d3) ∧ w.cell? ((a.add (i * 8)).add 7) = some (.int .i64 o.due) ∧ VA w (.agg #[.int .i64 j2, .string U, .slice b1 m1 d1, .slice b2 m2 d2, .slice b3 m3 d3]) o.val) ∧ o.key.length ≤ Rows.uptoBulk elems[i].1 ∧ Hold o.val (Rows.uptoBulk elems[i].1) := by
      intro i hi
      have hi2 : i < elems.length := by omega
      have h1 := hat i hi
      rw [List.getElem?_eq_getElem hi2, cells78] at h1
      obtain ⟨cs', h2, h3⟩ := Option.bind_eq_some_iff.1 h1
      obtain ⟨v0, v1, v2, v3, v4, v5, v6, v7, rfl, q0, q1, q2, q3, q4, q5, q6, q7⟩ := cells_eight h2
      obtain ⟨xs, n, -, hx, hl, hlen, hfd⟩ := DataW.trod_struct Tryz.underlying40 h3
      obtain ⟨y0, y1, y2, y3, rfl⟩ := four_of xs hlen
      have g0 : DataW.trod enc Tryz.prog w 0 (fun _ => true) true n 3 (([v0, v1, v2, v3, v4, v5, v6, v7].drop 0).take (Tryz.prog.cellsOf 3)) = some y0 := hfd 0 _ rfl
      rw [cellsI] at g0
      have g1 : DataW.trod enc Tryz.prog w 0 (fun _ => true) true n 9 (([v0, v1, v2, v3, v4, v5, v6, v7].drop 1).take (Tryz.prog.cellsOf 9)) = some y1 := hfd 1 _ rfl
      rw [cellsS] at g1
      have g2 : DataW.trod enc Tryz.prog w 0 (fun _ => true) true n 38 (([v0, v1, v2, v3, v4, v5, v6, v7].drop 2).take (Tryz.prog.cellsOf 38)) = some y2 := hfd 2 _ rfl
      rw [cells26] at g2
      have g3 : DataW.trod enc Tryz.prog w 0 (fun _ => true) true n 3 (([v0, v1, v2, v3, v4, v5, v6, v7].drop 7).take (Tryz.prog.cellsOf 3)) = some y3 := hfd 3 _ rfl
      rw [cellsI] at g3
      obtain ⟨k0, e0, -, -⟩ := DataW.trod_int Tryz.underlying3 (g0 : DataW.trod enc Tryz.prog w 0 (fun _ => true) true n 3 [v0] = some y0)
      obtain ⟨s1, e1, x1, -⟩ := DataW.trod_string Tryz.underlying9 (g1 : DataW.trod enc Tryz.prog w 0 (fun _ => true) true n 9 [v1] = some y1)
      obtain ⟨k3, e3, -, -⟩ := DataW.trod_int Tryz.underlying3 (g3 : DataW.trod enc Tryz.prog w 0 (fun _ => true) true n 3 [v7] = some y3)
      obtain ⟨vl, hva, hho⟩ := openV5 (g2 : DataW.trod enc Tryz.prog w 0 (fun _ => true) true n 38 [v2, v3, v4, v5, v6] = some y2)
      cases e0; cases e1; cases e3
      have hva' := hva
      obtain ⟨A, B, C, hag, ⟨b1, d1, hA, _⟩, ⟨b2, d2, hB, _⟩, ⟨b3, d3, hC, _⟩⟩ := hva
      simp only [Value.agg.injEq, Array.mk.injEq, List.cons.injEq, and_true] at hag
      obtain ⟨hg2, hg3, hg4, hg5, hg6⟩ := hag
      subst hg4 hg5 hg6
      subst hA hB hC
      subst hg2 hg3
      refine ⟨⟨k0, bs s1, vl, k3⟩, hi2, ⟨b1, _, d1, b2, _, d2, b3, _, d3, _, _, q0, by rw [q1, mk_bs], q2, q3, q4, q5, q6, q7, hva'⟩, ?_, ?_⟩
      · rw [hx]
        subst x1
        simp only [Rows.uptoBulk, Rows.uptoBulkAll, List.map_cons, List.map_nil]
        unfold bs
        omega
      · refine hho.mono ?_
        rw [hx]
        simp only [Rows.uptoBulk, Rows.uptoBulkAll, List.map_cons, List.map_nil]
        omega
    haveI : Inhabited SBase.Ef := ⟨⟨0, [], Dec.zV, 0⟩⟩
    obtain ⟨F, hF⟩ := Deep.choose_lt hch
    refine ⟨(List.range len).map F, ⟨some a, cap, by simp, by simpa using hlc, ?_⟩, ?_, ?_, fun i => ((elems.map (·.1)).map Rows.uptoBulk)[i]?.getD 0, ?_, ?_⟩
    · rcases Nat.eq_zero_or_pos len with h0 | hp
      · left; rw [h0]; rfl
      · right
        have hs : a.spot = none := by
          obtain ⟨_, ⟨_, _, _, _, _, _, _, _, _, _, _, h1, _⟩, _⟩ := hF 0 hp
          have := spot_none h1
          simpa [Addr.add] using this
        refine ⟨a.block, a.off, by obtain ⟨b, o, s⟩ := a; obtain rfl : s = none := hs; rfl, fun k hk => ?_⟩
        have hk' : k < len := by simpa using hk
        obtain ⟨_, ⟨b1, m1, d1, b2, m2, d2, b3, m3, d3, j2, U, h0, h1, h2, h3, h4, h5, h6, h7, hv⟩, _⟩ := hF k hk'
        rw [add_of hs, Addr.add_lit] at h0 h1 h2 h3 h4 h5 h6 h7
        simp only [List.getElem_map, List.getElem_range]
        exact ⟨b1, m1, d1, b2, m2, d2, b3, m3, d3, j2, U, h0, h1, h2, h3, h4, h5, h6, h7, hv⟩
    · simp only [Rows.uptoBulk]
      have h1 := bulk_len (elems.map (·.1))
      rw [List.length_map, hel] at h1
      simp only [List.length_map, List.length_range]
      omega
    · intro y hy
      obtain ⟨i, hi, rfl⟩ := List.mem_map.1 hy
      obtain ⟨hi2, _, hk, hh⟩ := hF i (List.mem_range.1 hi)
      have h2 := bulk_at (elems.map (·.1)) i (by rw [List.length_map]; exact hi2)
      rw [List.getElem_map] at h2
      simp only [Rows.uptoBulk]
      exact ⟨by omega, hh.mono (by omega)⟩
    · intro i hi
      have hi' : i < len := by simpa using hi
      obtain ⟨hi2, _, hk, hh⟩ := hF i hi'
      have e : ((elems.map (·.1)).map Rows.uptoBulk)[i]?.getD 0 = Rows.uptoBulk elems[i].1 := by simp [hi2]
      simp only [List.getElem_map, List.getElem_range]
      rw [e]
      exact ⟨hk, hh⟩
    · have e : ((List.range len).map F).length = ((elems.map (·.1)).map Rows.uptoBulk).length := by simp [hel]
      rw [e, sumR, ← bulk_all]
      simp only [Rows.uptoBulk]
      omega
/- what is small is nice -/
theorem sum_len {α : Type} (f : α → Nat) (l : List α) (h : ∀ x ∈ l, 1 ≤ f x) : l.length ≤ (l.map f).sum := by
  induction l with
  | nil => simp
  | cons x r ih =>
    have h1 := h x List.mem_cons_self
    have h2 := ih fun y hy => h y (List.mem_cons_of_mem _ hy)
    simp
    omega
theorem sum_mem {α : Type} (f : α → Nat) {l : List α} {x : α} (h : x ∈ l) : f x ≤ (l.map f).sum := by
  induction l with
  | nil => cases h
  | cons y r ih =>
    rcases List.mem_cons.1 h with rfl | h
    · simp
    · have := ih h; simp; omega
theorem flat_le {α : Type} (g : α → Bs) (f : α → Nat) (k : Nat) (l : List α) (h : ∀ x ∈ l, (g x).length ≤ k * f x) : (l.flatMap g).length ≤ k * (l.map f).sum := by
  induction l with
  | nil => simp
  | cons y r ih =>
    have h1 := h y List.mem_cons_self
    have h2 := ih fun z hz => h z (List.mem_cons_of_mem _ hz)
    rw [List.flatMap_cons, List.length_append, List.map_cons, List.sum_cons, Nat.mul_add]
    omega
theorem nice {x : Vl} {n : Nat} (h : Hold x n) (hn : n ≤ 1048576) : Nc x := by
  have ha := h.all
  have l1 := sum_len (fun t : Bs => t.length + 1) x.list (fun _ _ => by omega)
  have l2 := sum_len (fun p : Bs × Bs => p.1.length + p.2.length + 1) x.fields (fun _ _ => by omega)
  have l3 := sum_len (fun p : Bs × Int => p.1.length + 1) x.ranked (fun _ _ => by omega)
  have m1 := fun t (ht : t ∈ x.list) => sum_mem (fun t : Bs => t.length + 1) ht
  have m2 := fun t (ht : t ∈ x.fields) => sum_mem (fun p : Bs × Bs => p.1.length + p.2.length + 1) ht
  have m3 := fun t (ht : t ∈ x.ranked) => sum_mem (fun p : Bs × Int => p.1.length + 1) ht
  have hs : small x := ⟨by omega, by omega, by omega⟩
  have hw : Check0.Wel x := Dec.wel_of hs ⟨by omega, fun y hy => by have := m1 y hy; omega, fun p hp => by have := m2 p hp; exact ⟨by omega, by omega⟩, fun p hp => by have := m3 p hp; omega⟩
  refine ⟨hw, hs, ?_⟩
  have f1 := flat_le encT (fun t : Bs => t.length + 1) 12 x.list (fun t _ => by rw [Write.encT_len]; omega)
  have f2 := flat_le encF (fun p : Bs × Bs => p.1.length + p.2.length + 1) 12 x.fields (fun t _ => by rw [Write2.encF_len]; omega)
  have f3 := flat_le encE (fun p : Bs × Int => p.1.length + 1) 12 x.ranked (fun t _ => by rw [Write2.encE_len]; omega)
  have hB : (encB x).length ≤ 4 + 13 * 1048576 := by
    unfold encB
    split
    · rw [Write.encT_len]; omega
    · split
      · unfold encC; rw [List.length_append, len_le4]; omega
      · split
        · unfold encC; rw [List.length_append, len_le4]; omega
        · unfold encC; rw [List.length_append, len_le4]; omega
  unfold enc
  rw [List.length_cons]
  omega
/-- effects that are small together -/
theorem nice_all {l : List SBase.Ef} {n : Nat} (hl : l.length ≤ n) (h : ∀ f ∈ l, f.key.length ≤ n ∧ Hold f.val n) (hn : n ≤ 1048576) : (∀ f ∈ l, EEnc.Nice f) ∧ (EEnc.encL l).length ≤ 35184372088832 := by
  have hN := fun f hf => nice (h f hf).2 hn
  refine ⟨fun f hf => ⟨by have := (h f hf).1; omega, (hN f hf).wel, (hN f hf).sm⟩, ?_⟩
  have hE : ∀ f ∈ l, (EWrite.encE f).length ≤ 33554432 := fun f hf => by
    have h1 := (hN f hf).len
    have h2 := (h f hf).1
    unfold EWrite.encE
    simp only [List.length_append, List.length_cons, List.length_nil]
    have a1 : (if EMay.pkK f.kind then FixMath.leY (f.key.length : Int) 8 ++ f.key else []).length ≤ 8 + f.key.length := by split <;> simp [FixMath.leY_len]
    have a2 : (if EMay.pdK f.kind then FixMath.leY f.due 8 else []).length ≤ 8 := by split <;> simp [FixMath.leY_len]
    have a3 : (if EMay.pvK f.kind then enc f.val else []).length ≤ (enc f.val).length := by split <;> simp
    omega
  have key : ∀ m : List SBase.Ef, (∀ f ∈ m, (EWrite.encE f).length ≤ 33554432) → (EEnc.encL m).length ≤ m.length * 33554432 := by
    intro m
    induction m with
    | nil => intro _; simp [EEnc.encL]
    | cons f r ih =>
      intro hm
      have h1 := hm f List.mem_cons_self
      have h2 := ih fun g hg => hm g (List.mem_cons_of_mem _ hg)
      unfold EEnc.encL at *
      rw [List.flatMap_cons, List.length_append, List.length_cons]
      omega
  have := key l hE
  omega
theorem enc_le {x : Vl} {m : Nat} (h : Hold x m) : (enc x).length ≤ 5 + 12 * m := by
  have h0 := h.all
  have f1 := flat_le encT (fun t : Bs => t.length + 1) 12 x.list (fun t _ => by rw [Write.encT_len]; omega)
  have f2 := flat_le encF (fun p : Bs × Bs => p.1.length + p.2.length + 1) 12 x.fields (fun t _ => by rw [Write2.encF_len]; omega)
  have f3 := flat_le encE (fun p : Bs × Int => p.1.length + 1) 12 x.ranked (fun t _ => by rw [Write2.encE_len]; omega)
  have hB : (encB x).length ≤ 4 + 12 * m := by
    unfold encB
    split
    · rw [Write.encT_len]; omega
    · split
      · unfold encC; rw [List.length_append, len_le4]; omega
      · split
        · unfold encC; rw [List.length_append, len_le4]; omega
        · unfold encC; rw [List.length_append, len_le4]; omega
  unfold enc
  rw [List.length_cons]
  omega
theorem encE_le {f : SBase.Ef} {m : Nat} (h : f.key.length ≤ m) (h2 : Hold f.val m) : (EWrite.encE f).length ≤ 22 + 13 * m := by
  have h1 := enc_le h2
  unfold EWrite.encE
  simp only [List.length_append, List.length_cons, List.length_nil]
  have a1 : (if EMay.pkK f.kind then FixMath.leY (f.key.length : Int) 8 ++ f.key else []).length ≤ 8 + f.key.length := by split <;> simp [FixMath.leY_len]
  have a2 : (if EMay.pdK f.kind then FixMath.leY f.due 8 else []).length ≤ 8 := by split <;> simp [FixMath.leY_len]
  have a3 : (if EMay.pvK f.kind then enc f.val else []).length ≤ (enc f.val).length := by split <;> simp
  omega
theorem encL_le : ∀ (l : List SBase.Ef) (wt : Nat → Nat), (∀ i (h : i < l.length), (l[i]'h).key.length ≤ wt i ∧ Hold (l[i]'h).val (wt i)) → (EEnc.encL l).length ≤ 22 * l.length + 13 * ((List.range l.length).map wt).sum
  | [], wt, h => by simp [EEnc.encL]
  | f :: r, wt, h => by
    have h0 := h 0 (by simp)
    have h1 := encE_le h0.1 h0.2
    have h2 := encL_le r (fun i => wt (i + 1)) fun i hi => by
      have := h (i + 1) (by simpa using hi)
      simpa using this
    have e : EEnc.encL (f :: r) = EWrite.encE f ++ EEnc.encL r := by unfold EEnc.encL; rw [List.flatMap_cons]
    have e2 : ((List.range (f :: r).length).map wt).sum = wt 0 + ((List.range r.length).map fun i => wt (i + 1)).sum := by
      rw [List.length_cons, List.range_succ_eq_map, List.map_cons, List.map_map, List.sum_cons]
      rfl
    rw [e, List.length_append, e2, List.length_cons]
    simp only [List.getElem_cons_zero] at h1
    omega
end Go.Proofs.YtpnigkjmofhmbabGreat.OpenY
