/- From what a list of names and scores reads as to its cells. -/
import Derived.Test.YtighoelipihifabGreatDoorBase
import Derived.Carry
import Derived.ProofKit
import Derived.Deep.Slices
namespace Go.Proofs.YtighoelipihifabGreatDoor.OpenF
open Go.ChangeShapes Go.WideShapes Go.RowKit
open Go.Proofs.YtighoelipihifabGreatDoor.RankMath
open Go.Proofs.YtighoelipihifabGreatDoor.Base
set_option linter.unusedVariables false

theorem laidOut : laidOutB Tryz.prog = true := by kernel_rfl
theorem cellsS : Tryz.prog.cellsOf 9 = 1 := by kernel_rfl
theorem cellsI : Tryz.prog.cellsOf 3 = 1 := by kernel_rfl
theorem cellsE : Tryz.prog.cellsOf 35 = 2 := by kernel_rfl
theorem bytesE : Tryz.prog.bytesOf 35 = 24 := by kernel_rfl
theorem spot_none {w : World} {a : Addr} {v : Value} (h : w.cell? a = some v) : a.spot = none := by
  unfold World.cell? at h
  rcases hh : w.heap[a.block]? with _ | o
  · rw [hh] at h; cases h
  · rw [hh] at h
    cases o with
    | cells c ty fz =>
      cases hs : a.spot with
      | none => rfl
      | some s => simp [hs] at h
    | _ => cases h
theorem cells_two {w : World} {a : Addr} {cs : List Value} (h : w.cells? 0 a 2 = some cs) : ∃ v0 v1, cs = [v0, v1] ∧ w.cell? (a.add 0) = some v0 ∧ w.cell? (a.add 1) = some v1 := by
  unfold World.cells? at h
  rw [if_pos (Nat.zero_le _)] at h
  simp only [List.range_succ, List.range_zero, List.nil_append, List.cons_append, List.mapM_cons, List.mapM_nil] at h
  cases h0 : w.cell? (a.add 0) with
  | none => rw [h0] at h; simp at h
  | some v0 =>
    cases h1 : w.cell? (a.add 1) with
    | none => rw [h0, h1] at h; simp at h
    | some v1 => rw [h0, h1] at h; simp at h; exact ⟨v0, v1, h.symm, rfl, rfl⟩
theorem two_of {α : Type} (l : List α) (h : l.length = 2) : ∃ a0 a1, l = [a0, a1] := by
  match l, h with
  | [a0, a1], _ => exact ⟨a0, a1, rfl⟩
theorem all_mem {H : Type} {e : TypeId} : ∀ (l : List (DataW H)) (i : Nat) (h : i < l.length) (n : Nat), n ∈ l[i].weights Tryz.prog e → n ∈ DataW.weightsAll Tryz.prog e l
  | d :: l, 0, _, n, hn => by rw [DataW.weightsAll]; exact List.mem_append_left _ hn
  | d :: l, i + 1, h, n, hn => by rw [DataW.weightsAll]; exact List.mem_append_right _ (all_mem l i (by simpa using h) n hn)
theorem add_of {a : Addr} (h : a.spot = none) (k : Nat) : a.add k = ⟨a.block, a.off + k, none⟩ := by
  obtain ⟨b, o, s⟩ := a
  obtain rfl : s = none := h
  exact Addr.add_lit b o k
theorem bd_i {n : Int} (h : (Lit.int .i64 n).wf = true) : -9223372036854775808 ≤ n ∧ n ≤ 9223372036854775807 := by
  simp only [Lit.wf, IntKind.min, IntKind.max, IntKind.signed, IntKind.bits, Bool.and_eq_true] at h
  simp at h
  omega
structure Gv (w : World) (c : Value) (l : EL) : Prop where
  fs : FS w c l
  len : l.length ≤ 5864062014634
  nam : ∀ p ∈ l, p.1.length ≤ 140737488351232
  sco : ∀ p ∈ l, -9223372036854775808 ≤ p.2 ∧ p.2 ≤ 9223372036854775807
section
variable {H : Type} {enc : TypeId × Value → H} {w : World} {fuel : Nat} {c : Value} {x : DataW H × List MemPlace}
theorem open_list (h : DataW.trod enc Tryz.prog w 0 (fun _ => true) true fuel 22 [c] = some x) (hx : ∀ n ∈ x.1.weights Tryz.prog 22, n ≤ reachBytes) : ∃ l : EL, Gv w c l := by
  rcases DataW.trod_slice Tryz.underlying22 h with ⟨e3, rfl⟩ | ⟨a, len, cap, elems, rest, m, rfl, e3, rfl, -, hlc, hcm, hel, hat, -, -⟩
  · cases e3; exact ⟨[], ⟨none, 0, rfl, Nat.le_refl _, Or.inl rfl⟩, Nat.zero_le _, (fun x hx => nomatch hx), (fun x hx => nomatch hx)⟩
  · cases e3
    have hch : ∀ i, i < len → ∃ o : Ent, ∃ hi : i < elems.length, w.cell? ((a.add (i * 2)).add 0) = some (.string (mk o.1)) ∧ w.cell? ((a.add (i * 2)).add 1) = some (.int .i64 o.2) ∧ o.1.length ≤ 140737488351232 ∧ (-9223372036854775808 ≤ o.2 ∧ o.2 ≤ 9223372036854775807) := by
      intro i hi
      have hi2 : i < elems.length := by omega
      have h1 := hat i hi
      rw [List.getElem?_eq_getElem hi2, cellsE] at h1
      obtain ⟨cs', h2, h3⟩ := Option.bind_eq_some_iff.1 h1
      obtain ⟨v0, v1, rfl, q0, q1⟩ := cells_two h2
      obtain ⟨xs, n, -, hxs, hl, hlen, hfd⟩ := DataW.trod_struct Tryz.underlying35 h3
      obtain ⟨y0, y1, rfl⟩ := two_of xs hlen
      have g0 : DataW.trod enc Tryz.prog w 0 (fun _ => true) true n 9 (([v0, v1].drop 0).take (Tryz.prog.cellsOf 9)) = some y0 := hfd 0 _ rfl
      rw [cellsS] at g0
      have g1 : DataW.trod enc Tryz.prog w 0 (fun _ => true) true n 3 (([v0, v1].drop 1).take (Tryz.prog.cellsOf 3)) = some y1 := hfd 1 _ rfl
      rw [cellsI] at g1
      obtain ⟨t0, e0, d0, _⟩ := DataW.trod_string Tryz.underlying9 (g0 : DataW.trod enc Tryz.prog w 0 (fun _ => true) true n 9 [v0] = some y0)
      obtain ⟨t1, e1, d1, hw1⟩ := DataW.trod_int Tryz.underlying3 (g1 : DataW.trod enc Tryz.prog w 0 (fun _ => true) true n 3 [v1] = some y1)
      cases e0; cases e1
      have hw : ∀ k ∈ (elems[i]).1.weights Tryz.prog 35, k ≤ reachBytes := fun k hk => hx k (by
        simp only [DataW.weights, Tryz.underlying22]
        refine List.mem_cons_of_mem _ (List.mem_append_left _ (all_mem (elems.map (·.1)) i (by simpa using hi2) _ ?_))
        rw [List.getElem_map]
        exact hk)
      rw [hxs] at hw
      have hr : reachBytes = 140737488351232 := rfl
      have hw0 := hw t0.data.toList.length (by simp [DataW.weights, DataW.weightsEach, Tryz.underlying35, d0])
      exact ⟨(bs t0, t1), hi2, by rw [q0, mk_bs], q1, hr ▸ hw0, bd_i hw1⟩
    obtain ⟨F, hF⟩ := Deep.choose_lt hch
    refine ⟨(List.range len).map F, ⟨some a, cap, by simp, by simpa using hlc, ?_⟩, ?_, ?_, ?_⟩
    · rcases Nat.eq_zero_or_pos len with h0 | hp
      · left; rw [h0]; rfl
      · right
        have hs : a.spot = none := by
          obtain ⟨_, h1, _⟩ := hF 0 hp
          have := spot_none h1
          simpa [Addr.add] using this
        refine ⟨a.block, a.off, by obtain ⟨b, o, s⟩ := a; obtain rfl : s = none := hs; rfl, fun k hk => ?_⟩
        have hk' : k < len := by simpa using hk
        obtain ⟨_, h0, h1, _⟩ := hF k hk'
        rw [add_of hs, Addr.add_lit] at h0 h1
        simp only [List.getElem_map, List.getElem_range]
        exact ⟨h0, h1⟩
    · have hl := hx ((elems.length + rest.length) * 24) (by simp [DataW.weights, Tryz.underlying22, bytesE])
      have hr : reachBytes = 140737488351232 := rfl
      simp
      omega
    · intro y hy
      obtain ⟨i, hi, rfl⟩ := List.mem_map.1 hy
      obtain ⟨_, _, _, h, _⟩ := hF i (List.mem_range.1 hi)
      exact h
    · intro y hy
      obtain ⟨i, hi, rfl⟩ := List.mem_map.1 hy
      obtain ⟨_, _, _, _, h⟩ := hF i (List.mem_range.1 hi)
      exact h
end
end Go.Proofs.YtighoelipihifabGreatDoor.OpenF
