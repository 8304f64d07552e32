/- From what a list of fields reads as to its cells, and how much it holds. -/
import Derived.Test.YtolihcgpnoacaaaDoorBack
import Derived.Carry
import Derived.ProofKit
import Derived.Deep.Slices
namespace Go.Proofs.YtolihcgpnoacaaaDoor.OpenF
open Go.ChangeShapes Go.WideShapes Go.RowKit
open Go.Proofs.YtolihcgpnoacaaaDoor.DictMath
open Go.Proofs.YtolihcgpnoacaaaDoor.Base
open Go.Proofs.YtolihcgpnoacaaaDoor.Back
set_option linter.unusedVariables false

theorem laidOut : laidOutB Tryd.prog = true := by kernel_rfl
theorem cells9 : Tryd.prog.cellsOf 9 = 1 := by kernel_rfl
theorem cells52 : Tryd.prog.cellsOf 52 = 2 := by kernel_rfl
theorem bytes52 : Tryd.prog.bytesOf 52 = 32 := by kernel_rfl
theorem spot_none {w : World} {a : Addr} {v : Value} (h : w.cell? a = some v) : a.spot = none := by
  unfold World.cell? at h
  rcases hh : w.heap[a.block]? with _ | o
  · rw [hh] at h; cases h
  · rw [hh] at h
    cases o with
    | cells c ty fz =>
      cases hs : a.spot with
      | none => rfl
      | some s => simp [hs] at h
    | _ => cases h
theorem cells_two {w : World} {a : Addr} {cs : List Value} (h : w.cells? 0 a 2 = some cs) : ∃ v0 v1, cs = [v0, v1] ∧ w.cell? (a.add 0) = some v0 ∧ w.cell? (a.add 1) = some v1 := by
  unfold World.cells? at h
  rw [if_pos (Nat.zero_le _)] at h
  simp only [List.range_succ, List.range_zero, List.nil_append, List.cons_append, List.mapM_cons, List.mapM_nil] at h
  cases h0 : w.cell? (a.add 0) with
  | none => rw [h0] at h; simp at h
  | some v0 =>
    cases h1 : w.cell? (a.add 1) with
    | none => rw [h0, h1] at h; simp at h
    | some v1 => rw [h0, h1] at h; simp at h; exact ⟨v0, v1, h.symm, rfl, rfl⟩
theorem two_of {α : Type} (l : List α) (h : l.length = 2) : ∃ a0 a1, l = [a0, a1] := by
  match l, h with
  | [a0, a1], _ => exact ⟨a0, a1, rfl⟩
theorem all_mem {H : Type} {e : TypeId} : ∀ (l : List (DataW H)) (i : Nat) (h : i < l.length) (n : Nat), n ∈ l[i].weights Tryd.prog e → n ∈ DataW.weightsAll Tryd.prog e l
  | d :: l, 0, _, n, hn => by rw [DataW.weightsAll]; exact List.mem_append_left _ hn
  | d :: l, i + 1, h, n, hn => by rw [DataW.weightsAll]; exact List.mem_append_right _ (all_mem l i (by simpa using h) n hn)
theorem bulk_sum {H : Type} : ∀ (l : List (DataW H)) (f : Nat → Nat), (∀ i (h : i < l.length), f i ≤ Rows.uptoBulk l[i]) → ((List.range l.length).map f).sum ≤ Rows.uptoBulkAll l
  | [], f, h => Nat.zero_le _
  | d :: l, f, h => by
    have ih := bulk_sum l (fun i => f (i + 1)) (fun i hi => h (i + 1) (Nat.succ_lt_succ hi))
    have h0 : f 0 ≤ Rows.uptoBulk d := h 0 (Nat.succ_pos _)
    rw [List.length_cons, List.range_succ_eq_map, List.map_cons, List.sum_cons, List.map_map, Rows.uptoBulkAll]
    have e : (List.range l.length).map (f ∘ Nat.succ) = (List.range l.length).map (fun i => f (i + 1)) := rfl
    rw [e]
    omega
theorem bulk_one {H : Type} (d : DataW H) : 1 ≤ Rows.uptoBulk d := by
  cases d with
  | lit l => cases l <;> simp [Rows.uptoBulk]
  | _ => simp [Rows.uptoBulk]
theorem add_of {a : Addr} (h : a.spot = none) (k : Nat) : a.add k = ⟨a.block, a.off + k, none⟩ := by
  obtain ⟨b, o, s⟩ := a
  obtain rfl : s = none := h
  exact Addr.add_lit b o k
section
variable {H : Type} {enc : TypeId × Value → H} {w : World} {fuel : Nat} {c : Value} {x : DataW H × List MemPlace}
theorem open_fields (h : DataW.trod enc Tryd.prog w 0 (fun _ => true) true fuel 22 [c] = some x) (hx : ∀ n ∈ x.1.weights Tryd.prog 22, n ≤ reachBytes) : ∃ l : FL, Gv w c l ∧ (l.map fun p => p.1.length + p.2.length + 1).sum + 1 ≤ Rows.uptoBulk x.1 := by
  rcases DataW.trod_slice Tryd.underlying22 h with ⟨e3, rfl⟩ | ⟨a, len, cap, elems, rest, m, rfl, e3, rfl, -, hlc, hcm, hel, hat, -, -⟩
  · cases e3; exact ⟨[], ⟨⟨none, 0, rfl, Or.inl rfl⟩, Nat.zero_le _, fun x hx => by cases hx⟩, bulk_one _⟩
  · cases e3
    have hch : ∀ i, i < len → ∃ o : Bs × Bs, ∃ hi : i < elems.length, w.cell? ((a.add (i * 2)).add 0) = some (.string (mk o.1)) ∧ w.cell? ((a.add (i * 2)).add 1) = some (.string (mk o.2)) ∧ (o.1.length ≤ 140737488351232 ∧ o.2.length ≤ 140737488351232) ∧ o.1.length + o.2.length + 1 ≤ Rows.uptoBulk (elems[i]).1 := by
      intro i hi
      have hi2 : i < elems.length := by omega
      have h1 := hat i hi
      rw [List.getElem?_eq_getElem hi2, cells52] at h1
      obtain ⟨cs', h2, h3⟩ := Option.bind_eq_some_iff.1 h1
      obtain ⟨v0, v1, rfl, q0, q1⟩ := cells_two h2
      obtain ⟨xs, n, -, hxs, hl, hlen, hfd⟩ := DataW.trod_struct Tryd.underlying52 h3
      obtain ⟨y0, y1, rfl⟩ := two_of xs hlen
      have g0 : DataW.trod enc Tryd.prog w 0 (fun _ => true) true n 9 (([v0, v1].drop 0).take (Tryd.prog.cellsOf 9)) = some y0 := hfd 0 _ rfl
      rw [cells9] at g0
      have g1 : DataW.trod enc Tryd.prog w 0 (fun _ => true) true n 9 (([v0, v1].drop 1).take (Tryd.prog.cellsOf 9)) = some y1 := hfd 1 _ rfl
      rw [cells9] at g1
      obtain ⟨t0, e0, d0, _⟩ := DataW.trod_string Tryd.underlying9 (g0 : DataW.trod enc Tryd.prog w 0 (fun _ => true) true n 9 [v0] = some y0)
      obtain ⟨t1, e1, d1, _⟩ := DataW.trod_string Tryd.underlying9 (g1 : DataW.trod enc Tryd.prog w 0 (fun _ => true) true n 9 [v1] = some y1)
      cases e0; cases e1
      have hw : ∀ k ∈ (elems[i]).1.weights Tryd.prog 52, k ≤ reachBytes := fun k hk => hx k (by
        simp only [DataW.weights, Tryd.underlying22]
        refine List.mem_cons_of_mem _ (List.mem_append_left _ (all_mem (elems.map (·.1)) i (by simpa using hi2) _ ?_))
        rw [List.getElem_map]
        exact hk)
      rw [hxs] at hw
      have hr : reachBytes = 140737488351232 := rfl
      have hw0 := hw t0.data.toList.length (by simp [DataW.weights, DataW.weightsEach, Tryd.underlying52, d0])
      have hw1 := hw t1.data.toList.length (by simp [DataW.weights, DataW.weightsEach, Tryd.underlying52, d0, d1])
      refine ⟨(bs t0, bs t1), hi2, by rw [q0, mk_bs], by rw [q1, mk_bs], ⟨hr ▸ hw0, hr ▸ hw1⟩, ?_⟩
      rw [hxs]
      simp only [Rows.uptoBulk, Rows.uptoBulkAll, List.map_cons, List.map_nil, d0, d1]
      unfold bs
      omega
    obtain ⟨F, hF⟩ := Deep.choose_lt hch
    refine ⟨(List.range len).map F, ⟨⟨some a, cap, by simp, ?_⟩, ?_, ?_⟩, ?_⟩
    · rcases Nat.eq_zero_or_pos len with h0 | hp
      · left; rw [h0]; rfl
      · right
        have hs : a.spot = none := by
          obtain ⟨_, h1, _⟩ := hF 0 hp
          have := spot_none h1
          simpa [Addr.add] using this
        refine ⟨a.block, a.off, by obtain ⟨b, o, s⟩ := a; obtain rfl : s = none := hs; rfl, fun k hk => ?_⟩
        have hk' : k < len := by simpa using hk
        obtain ⟨_, h0, h1, _⟩ := hF k hk'
        rw [add_of hs, Addr.add_lit] at h0 h1
        simp only [List.getElem_map, List.getElem_range]
        exact ⟨h0, h1⟩
    · have hl := hx ((elems.length + rest.length) * 32) (by simp [DataW.weights, Tryd.underlying22, bytes52])
      have hr : reachBytes = 140737488351232 := rfl
      simp
      omega
    · intro y hy
      obtain ⟨i, hi, rfl⟩ := List.mem_map.1 hy
      obtain ⟨_, _, _, h, _⟩ := hF i (List.mem_range.1 hi)
      exact h
    · have := bulk_sum (elems.map (·.1)) (fun i => (F i).1.length + (F i).2.length + 1) (fun i hi => by
        have hi' : i < len := by rw [List.length_map, hel] at hi; exact hi
        obtain ⟨_, _, _, _, h⟩ := hF i hi'
        rw [List.getElem_map]
        exact h)
      rw [List.length_map, hel] at this
      rw [List.map_map]
      simp only [Rows.uptoBulk]
      have e : ((fun p : Bs × Bs => p.1.length + p.2.length + 1) ∘ F) = fun i => (F i).1.length + (F i).2.length + 1 := rfl
      rw [e]
      omega
end
end Go.Proofs.YtolihcgpnoacaaaDoor.OpenF
