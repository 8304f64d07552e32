/- From what a script of calls reads as to its cells. -/
import Derived.Test.YtighoelipihifaaGreatDoorOpenB
import Derived.Test.YtighoelipihifaaGreatDoorPlaysF
namespace Go.Proofs.YtighoelipihifaaGreatDoor.OpenO
open Go.ChangeShapes Go.WideShapes Go.RowKit
open Go.Proofs.YtighoelipihifaaGreatDoor.RankMath
open Go.Proofs.YtighoelipihifaaGreatDoor.RankMath3
open Go.Proofs.YtighoelipihifaaGreatDoor.Base
open Go.Proofs.YtighoelipihifaaGreatDoor.Bound
open Go.Proofs.YtighoelipihifaaGreatDoor.OpenF
open Go.Proofs.YtighoelipihifaaGreatDoor.OpenB
open Go.Proofs.YtighoelipihifaaGreatDoor.PlaysF
set_option linter.unusedVariables false
theorem cellsO : Tryz.prog.cellsOf 41 = 13 := by kernel_rfl
theorem bytesO : Tryz.prog.bytesOf 41 = 128 := by kernel_rfl
theorem mapM_get {α β : Type} (f : α → Option β) : ∀ (l : List α) (r : List β), l.mapM f = some r → r.length = l.length ∧ ∀ i (hi : i < l.length), ∃ v, r[i]? = some v ∧ f l[i] = some v
  | [], r, h => by
    simp at h
    subst h
    exact ⟨rfl, fun i hi => absurd hi (Nat.not_lt_zero _)⟩
  | a :: l, r, h => by
    rw [List.mapM_cons] at h
    cases h1 : f a with
    | none => rw [h1] at h; simp at h
    | some b =>
      rw [h1] at h
      cases h2 : l.mapM f with
      | none => rw [h2] at h; simp at h
      | some bs =>
        rw [h2] at h
        simp at h
        subst h
        obtain ⟨e1, e2⟩ := mapM_get f l bs h2
        refine ⟨by simp [e1], fun i hi => ?_⟩
        cases i with
        | zero => exact ⟨b, rfl, h1⟩
        | succ i => exact e2 i (by simpa using hi)
theorem cells_get {w : World} {a : Addr} {n : Nat} {cs : List Value} (h : w.cells? 0 a n = some cs) : cs.length = n ∧ ∀ i, i < n → ∃ v, cs[i]? = some v ∧ w.cell? (a.add i) = some v := by
  unfold World.cells? at h
  rw [if_pos (Nat.zero_le _)] at h
  obtain ⟨h1, h2⟩ := mapM_get _ _ _ h
  rw [List.length_range] at h1
  refine ⟨h1, fun i hi => ?_⟩
  obtain ⟨v, e1, e2⟩ := h2 i (by rw [List.length_range]; exact hi)
  rw [List.getElem_range] at e2
  exact ⟨v, e1, e2⟩
theorem seven_of {α : Type} (l : List α) (h : l.length = 7) : ∃ a0 a1 a2 a3 a4 a5 a6, l = [a0, a1, a2, a3, a4, a5, a6] := by
  match l, h with
  | [a0, a1, a2, a3, a4, a5, a6], _ => exact ⟨a0, a1, a2, a3, a4, a5, a6, rfl⟩
theorem list13 {α : Type} (l : List α) (h : l.length = 13) : ∃ v0 v1 v2 v3 v4 v5 v6 v7 v8 v9 v10 v11 v12, l = [v0, v1, v2, v3, v4, v5, v6, v7, v8, v9, v10, v11, v12] := by
  match l, h with
  | [v0, v1, v2, v3, v4, v5, v6, v7, v8, v9, v10, v11, v12], _ => exact ⟨v0, v1, v2, v3, v4, v5, v6, v7, v8, v9, v10, v11, v12, rfl⟩
/-- a call in memory -/
structure OCell (w : World) (g o : Nat) (x : OpD) : Prop where
  c0 : w.cell? ⟨g, o, none⟩ = some (.int .i64 x.K)
  c1 : w.cell? ⟨g, o + 1, none⟩ = some (.string (mk x.nm))
  c2 : w.cell? ⟨g, o + 2, none⟩ = some (.int .i64 x.A)
  c3 : w.cell? ⟨g, o + 3, none⟩ = some (.int .i64 x.Bq)
  c4 : w.cell? ⟨g, o + 4, none⟩ = some (.int .i64 x.lo.inf)
  c5 : w.cell? ⟨g, o + 5, none⟩ = some (.bool x.lo.opn)
  c6 : w.cell? ⟨g, o + 6, none⟩ = some (.int .i64 x.lo.score)
  c7 : w.cell? ⟨g, o + 7, none⟩ = some (.string (mk x.lo.name))
  c8 : w.cell? ⟨g, o + 8, none⟩ = some (.int .i64 x.hi.inf)
  c9 : w.cell? ⟨g, o + 9, none⟩ = some (.bool x.hi.opn)
  c10 : w.cell? ⟨g, o + 10, none⟩ = some (.int .i64 x.hi.score)
  c11 : w.cell? ⟨g, o + 11, none⟩ = some (.string (mk x.hi.name))
  c12 : w.cell? ⟨g, o + 12, none⟩ = some (.bool x.tn)
structure OSl (w : World) (v : Value) (l : List OpD) : Prop where
  at' : ∃ a c, v = .slice a l.length c ∧ (l = [] ∨ ∃ g o, a = some ⟨g, o, none⟩ ∧ ∀ i x, l[i]? = some x → OCell w g (o + i * 13) x)
  ok : ∀ x ∈ l, OpOk x
  len : l.length ≤ 1099511627776
instance : Inhabited OpD := ⟨⟨0, [], 0, 0, ⟨0, false, 0, []⟩, ⟨0, false, 0, []⟩, false⟩⟩
section
variable {H : Type} {enc : TypeId × Value → H} {w : World} {fuel : Nat} {c : Value} {x : DataW H × List MemPlace}
theorem bound_of {n : Nat} {c0 c1 c2 c3 : Value} {y : DataW H × List MemPlace} (h : DataW.trod enc Tryz.prog w 0 (fun _ => true) true n 39 [c0, c1, c2, c3] = some y) : ∃ b : Bnd, c0 = .int .i64 b.inf ∧ c1 = .bool b.opn ∧ c2 = .int .i64 b.score ∧ c3 = .string (mk b.name) ∧ b.inf ≤ 9223372036854775807 := by
  obtain ⟨xs, n', -, hxs, hl, hlen, hfd⟩ := DataW.trod_struct Tryz.underlying39 h
  obtain ⟨y0, y1, y2, y3, rfl⟩ := four_of xs hlen
  have g0 : DataW.trod enc Tryz.prog w 0 (fun _ => true) true n' 3 (([c0, c1, c2, c3].drop 0).take (Tryz.prog.cellsOf 3)) = some y0 := hfd 0 _ rfl
  rw [cellsI] at g0
  have g1 : DataW.trod enc Tryz.prog w 0 (fun _ => true) true n' 4 (([c0, c1, c2, c3].drop 1).take (Tryz.prog.cellsOf 4)) = some y1 := hfd 1 _ rfl
  rw [cellsL] at g1
  have g2 : DataW.trod enc Tryz.prog w 0 (fun _ => true) true n' 3 (([c0, c1, c2, c3].drop 2).take (Tryz.prog.cellsOf 3)) = some y2 := hfd 2 _ rfl
  rw [cellsI] at g2
  have g3 : DataW.trod enc Tryz.prog w 0 (fun _ => true) true n' 9 (([c0, c1, c2, c3].drop 3).take (Tryz.prog.cellsOf 9)) = some y3 := hfd 3 _ rfl
  rw [cellsS] at g3
  obtain ⟨k0, e0, -, w0⟩ := DataW.trod_int Tryz.underlying3 (g0 : DataW.trod enc Tryz.prog w 0 (fun _ => true) true n' 3 [c0] = some y0)
  obtain ⟨k1, e1, -⟩ := DataW.trod_bool Tryz.underlying4 (g1 : DataW.trod enc Tryz.prog w 0 (fun _ => true) true n' 4 [c1] = some y1)
  obtain ⟨k2, e2, -, -⟩ := DataW.trod_int Tryz.underlying3 (g2 : DataW.trod enc Tryz.prog w 0 (fun _ => true) true n' 3 [c2] = some y2)
  obtain ⟨t3, e3, -, -⟩ := DataW.trod_string Tryz.underlying9 (g3 : DataW.trod enc Tryz.prog w 0 (fun _ => true) true n' 9 [c3] = some y3)
  cases e0; cases e1; cases e2; cases e3
  exact ⟨⟨k0, k1, k2, bs t3⟩, rfl, rfl, rfl, by rw [mk_bs], (bd_i w0).2⟩
set_option maxRecDepth 100000 in
set_option maxHeartbeats 1000000 in
theorem open_ops (h : DataW.trod enc Tryz.prog w 0 (fun _ => true) true fuel 35 [c] = some x) (hx : ∀ n ∈ x.1.weights Tryz.prog 35, n ≤ reachBytes) : ∃ l : List OpD, OSl w c l := by
  rcases DataW.trod_slice Tryz.underlying35 h with ⟨e3, rfl⟩ | ⟨a, len, cap, elems, rest, m, rfl, e3, rfl, -, hlc, hcm, hel, hat, -, -⟩
  · cases e3; exact ⟨[], ⟨⟨none, 0, rfl, Or.inl rfl⟩, (fun x hx => nomatch hx), Nat.zero_le _⟩⟩
  · cases e3
    have hch : ∀ i, i < len → ∃ o : OpD, (w.cell? ((a.add (i * 13)).add 0) = some (.int .i64 o.K) ∧ w.cell? ((a.add (i * 13)).add 1) = some (.string (mk o.nm)) ∧ w.cell? ((a.add (i * 13)).add 2) = some (.int .i64 o.A) ∧ w.cell? ((a.add (i * 13)).add 3) = some (.int .i64 o.Bq) ∧ w.cell? ((a.add (i * 13)).add 4) = some (.int .i64 o.lo.inf) ∧ w.cell? ((a.add (i * 13)).add 5) = some (.bool o.lo.opn) ∧ w.cell? ((a.add (i * 13)).add 6) = some (.int .i64 o.lo.score) ∧ w.cell? ((a.add (i * 13)).add 7) = some (.string (mk o.lo.name)) ∧ w.cell? ((a.add (i * 13)).add 8) = some (.int .i64 o.hi.inf) ∧ w.cell? ((a.add (i * 13)).add 9) = some (.bool o.hi.opn) ∧ w.cell? ((a.add (i * 13)).add 10) = some (.int .i64 o.hi.score) ∧ w.cell? ((a.add (i * 13)).add 11) = some (.string (mk o.hi.name)) ∧ w.cell? ((a.add (i * 13)).add 12) = some (.bool o.tn)) ∧ OpOk o := by
      intro i hi
      have hi2 : i < elems.length := by omega
      have h1 := hat i hi
      rw [List.getElem?_eq_getElem hi2, cellsO] at h1
      obtain ⟨cs', h2, h3⟩ := Option.bind_eq_some_iff.1 h1
      obtain ⟨hcl, hcg⟩ := cells_get h2
      obtain ⟨v0, v1, v2, v3, v4, v5, v6, v7, v8, v9, v10, v11, v12, rfl⟩ := list13 cs' hcl
      obtain ⟨z0, zz0, q0⟩ := hcg 0 (by decide)
      obtain rfl : v0 = z0 := Option.some.inj zz0
      obtain ⟨z1, zz1, q1⟩ := hcg 1 (by decide)
      obtain rfl : v1 = z1 := Option.some.inj zz1
      obtain ⟨z2, zz2, q2⟩ := hcg 2 (by decide)
      obtain rfl : v2 = z2 := Option.some.inj zz2
      obtain ⟨z3, zz3, q3⟩ := hcg 3 (by decide)
      obtain rfl : v3 = z3 := Option.some.inj zz3
      obtain ⟨z4, zz4, q4⟩ := hcg 4 (by decide)
      obtain rfl : v4 = z4 := Option.some.inj zz4
      obtain ⟨z5, zz5, q5⟩ := hcg 5 (by decide)
      obtain rfl : v5 = z5 := Option.some.inj zz5
      obtain ⟨z6, zz6, q6⟩ := hcg 6 (by decide)
      obtain rfl : v6 = z6 := Option.some.inj zz6
      obtain ⟨z7, zz7, q7⟩ := hcg 7 (by decide)
      obtain rfl : v7 = z7 := Option.some.inj zz7
      obtain ⟨z8, zz8, q8⟩ := hcg 8 (by decide)
      obtain rfl : v8 = z8 := Option.some.inj zz8
      obtain ⟨z9, zz9, q9⟩ := hcg 9 (by decide)
      obtain rfl : v9 = z9 := Option.some.inj zz9
      obtain ⟨z10, zz10, q10⟩ := hcg 10 (by decide)
      obtain rfl : v10 = z10 := Option.some.inj zz10
      obtain ⟨z11, zz11, q11⟩ := hcg 11 (by decide)
      obtain rfl : v11 = z11 := Option.some.inj zz11
      obtain ⟨z12, zz12, q12⟩ := hcg 12 (by decide)
      obtain rfl : v12 = z12 := Option.some.inj zz12
      obtain ⟨xs, n, -, hxs, hl, hlen, hfd⟩ := DataW.trod_struct Tryz.underlying41 h3
      obtain ⟨y0, y1, y2, y3, y4, y5, y6, rfl⟩ := seven_of xs hlen
      have g0 : DataW.trod enc Tryz.prog w 0 (fun _ => true) true n 3 (([v0, v1, v2, v3, v4, v5, v6, v7, v8, v9, v10, v11, v12].drop 0).take (Tryz.prog.cellsOf 3)) = some y0 := hfd 0 _ rfl
      rw [cellsI] at g0
      have g1 : DataW.trod enc Tryz.prog w 0 (fun _ => true) true n 9 (([v0, v1, v2, v3, v4, v5, v6, v7, v8, v9, v10, v11, v12].drop 1).take (Tryz.prog.cellsOf 9)) = some y1 := hfd 1 _ rfl
      rw [cellsS] at g1
      have g2 : DataW.trod enc Tryz.prog w 0 (fun _ => true) true n 3 (([v0, v1, v2, v3, v4, v5, v6, v7, v8, v9, v10, v11, v12].drop 2).take (Tryz.prog.cellsOf 3)) = some y2 := hfd 2 _ rfl
      rw [cellsI] at g2
      have g3 : DataW.trod enc Tryz.prog w 0 (fun _ => true) true n 3 (([v0, v1, v2, v3, v4, v5, v6, v7, v8, v9, v10, v11, v12].drop 3).take (Tryz.prog.cellsOf 3)) = some y3 := hfd 3 _ rfl
      rw [cellsI] at g3
      have g4 : DataW.trod enc Tryz.prog w 0 (fun _ => true) true n 39 (([v0, v1, v2, v3, v4, v5, v6, v7, v8, v9, v10, v11, v12].drop 4).take (Tryz.prog.cellsOf 39)) = some y4 := hfd 4 _ rfl
      rw [cellsB] at g4
      have g5 : DataW.trod enc Tryz.prog w 0 (fun _ => true) true n 39 (([v0, v1, v2, v3, v4, v5, v6, v7, v8, v9, v10, v11, v12].drop 8).take (Tryz.prog.cellsOf 39)) = some y5 := hfd 5 _ rfl
      rw [cellsB] at g5
      have g6 : DataW.trod enc Tryz.prog w 0 (fun _ => true) true n 4 (([v0, v1, v2, v3, v4, v5, v6, v7, v8, v9, v10, v11, v12].drop 12).take (Tryz.prog.cellsOf 4)) = some y6 := hfd 6 _ rfl
      rw [cellsL] at g6
      obtain ⟨k0, e0, -, w0⟩ := DataW.trod_int Tryz.underlying3 (g0 : DataW.trod enc Tryz.prog w 0 (fun _ => true) true n 3 [v0] = some y0)
      obtain ⟨t1, e1, d1, _⟩ := DataW.trod_string Tryz.underlying9 (g1 : DataW.trod enc Tryz.prog w 0 (fun _ => true) true n 9 [v1] = some y1)
      obtain ⟨k2, e2, -, w2⟩ := DataW.trod_int Tryz.underlying3 (g2 : DataW.trod enc Tryz.prog w 0 (fun _ => true) true n 3 [v2] = some y2)
      obtain ⟨k3, e3, -, w3⟩ := DataW.trod_int Tryz.underlying3 (g3 : DataW.trod enc Tryz.prog w 0 (fun _ => true) true n 3 [v3] = some y3)
      obtain ⟨lo, l0, l1, l2, l3, l4⟩ := bound_of (g4 : DataW.trod enc Tryz.prog w 0 (fun _ => true) true n 39 [v4, v5, v6, v7] = some y4)
      obtain ⟨hi', u0, u1, u2, u3, u4⟩ := bound_of (g5 : DataW.trod enc Tryz.prog w 0 (fun _ => true) true n 39 [v8, v9, v10, v11] = some y5)
      obtain ⟨k6, e6, -⟩ := DataW.trod_bool Tryz.underlying4 (g6 : DataW.trod enc Tryz.prog w 0 (fun _ => true) true n 4 [v12] = some y6)
      cases e0; cases e1; cases e2; cases e3; cases e6
      subst l0 l1 l2 l3 u0 u1 u2 u3
      have hw : ∀ k ∈ (elems[i]).1.weights Tryz.prog 41, k ≤ reachBytes := fun k hk => hx k (by
        simp only [DataW.weights, Tryz.underlying35]
        refine List.mem_cons_of_mem _ (List.mem_append_left _ (all_mem (elems.map (·.1)) i (by simpa using hi2) _ ?_))
        rw [List.getElem_map]
        exact hk)
      rw [hxs] at hw
      have hr : reachBytes = 140737488351232 := rfl
      have hw0 := hw t1.data.toList.length (by simp [DataW.weights, DataW.weightsEach, Tryz.underlying41, d1])
      exact ⟨⟨k0, bs t1, k2, k3, lo, hi', k6⟩, ⟨q0, by rw [q1, mk_bs], q2, q3, q4, q5, q6, q7, q8, q9, q10, q11, q12⟩, ⟨Nat.le_trans (hr ▸ hw0) (by decide), (bd_i w2).1, (bd_i w2).2, (bd_i w3).1, (bd_i w3).2, l4, u4⟩⟩
    obtain ⟨F, hF⟩ := Deep.choose_lt hch
    refine ⟨(List.range len).map F, ⟨⟨some a, cap, by simp, ?_⟩, ?_, ?_⟩⟩
    · rcases Nat.eq_zero_or_pos len with h0 | hp
      · left; rw [h0]; rfl
      · right
        have hs : a.spot = none := by
          obtain ⟨⟨h1, _⟩, _⟩ := hF 0 hp
          have := spot_none h1
          simpa [Addr.add] using this
        refine ⟨a.block, a.off, by obtain ⟨b, o, s⟩ := a; obtain rfl : s = none := hs; rfl, fun k y hk => ?_⟩
        have hk' : k < len := by have := (List.getElem?_eq_some_iff.1 hk).1; simpa using this
        have hy : y = F k := by simp [hk'] at hk; exact hk.symm
        subst hy
        obtain ⟨⟨h0, h1, h2, h3, h4, h5, h6, h7, h8, h9, h10, h11, h12⟩, _⟩ := hF k hk'
        rw [add_of hs, Addr.add_lit] at h0 h1 h2 h3 h4 h5 h6 h7 h8 h9 h10 h11 h12
        exact ⟨h0, h1, h2, h3, h4, h5, h6, h7, h8, h9, h10, h11, h12⟩
    · intro y hy
      obtain ⟨i, hi, rfl⟩ := List.mem_map.1 hy
      exact (hF i (List.mem_range.1 hi)).2
    · have hl := hx ((elems.length + rest.length) * 128) (by simp [DataW.weights, Tryz.underlying35, bytesO])
      have hr : reachBytes = 140737488351232 := rfl
      simp
      omega
end
end Go.Proofs.YtighoelipihifaaGreatDoor.OpenO
