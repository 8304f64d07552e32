/- From what the steps read as to pieces and counts in memory, and how much they hold. -/
import Derived.Test.YtfkilbhhpipjbaaGreatDoorData
namespace Go.Proofs.YtfkilbhhpipjbaaGreatDoor.StepD
open Go.ChangeShapes Go.WideShapes Go.RowKit
open Go.Proofs.YtfkilbhhpipjbaaGreatDoor.Base
open Go.Proofs.YtfkilbhhpipjbaaGreatDoor.Data
set_option linter.unusedVariables false
abbrev Sp := List UInt8 × Int
theorem cells49 : Tryz.prog.cellsOf 49 = 2 := by kernel_rfl
theorem two_of {α : Type} (l : List α) (h : l.length = 2) : ∃ a b, l = [a, b] := by
  match l, h with
  | [a, b], _ => exact ⟨a, b, rfl⟩
theorem cells_two {w : World} {a : Addr} {cs : List Value} (h : w.cells? 0 a 2 = some cs) : ∃ v0 v1, cs = [v0, v1] ∧ w.cell? (a.add 0) = some v0 ∧ w.cell? (a.add 1) = some v1 := by
  unfold World.cells? at h
  rw [if_pos (Nat.zero_le _)] at h
  simp only [List.range_succ, List.range_zero, List.nil_append, List.cons_append, List.mapM_cons, List.mapM_nil] at h
  cases h0 : w.cell? (a.add 0) with
  | none => rw [h0] at h; simp at h
  | some v0 =>
    cases h1 : w.cell? (a.add 1) with
    | none => rw [h0, h1] at h; simp at h
    | some v1 => rw [h0, h1] at h; simp at h; exact ⟨v0, v1, h.symm, rfl, rfl⟩
/- a slice of steps, to be read -/
def SpSl (w : World) (v : Value) (l : List Sp) : Prop := ∃ a cap, v = .slice a l.length cap ∧ (l = [] ∨ ∃ g o, a = some ⟨g, o, none⟩ ∧ ∀ i (h : i < l.length), w.cell? ⟨g, o + i * 2, none⟩ = some (.string (mk (l[i]).1)) ∧ w.cell? ⟨g, o + i * 2 + 1, none⟩ = some (.int .i64 (l[i]).2))
def wt (l : List Sp) : Nat := (l.map fun o => o.1.length + 1).sum
theorem open_steps {H : Type} {enc : TypeId × Value → H} {w : World} {fuel : Nat} {c : Value} {x : DataW H × List MemPlace} (h : DataW.trod enc Tryz.prog w 0 (fun _ => true) true fuel 40 [c] = some x) :
    ∃ l : List Sp, SpSl w c l ∧ wt l ≤ Rows.uptoBulk x.1 := by
  rcases DataW.trod_slice Tryz.underlying40 h with ⟨e3, rfl⟩ | ⟨a, len, cap, elems, rest, m, rfl, e3, rfl, -, hlc, hcm, hel, hat, -, -⟩
  · cases e3; exact ⟨[], ⟨none, 0, rfl, Or.inl rfl⟩, Nat.zero_le _⟩
  · cases e3
    have hch : ∀ i, i < len → ∃ o : Sp, ∃ hi : i < elems.length, w.cell? ((a.add (i * 2)).add 0) = some (.string (mk o.1)) ∧ w.cell? ((a.add (i * 2)).add 1) = some (.int .i64 o.2) ∧ o.1.length + 1 ≤ Rows.uptoBulk (elems[i]).1 := by
      intro i hi
      have hi2 : i < elems.length := by omega
      have h1 := hat i hi
      rw [List.getElem?_eq_getElem hi2, cells49] at h1
      obtain ⟨cs', h2, h3⟩ := Option.bind_eq_some_iff.1 h1
      obtain ⟨v0, v1, rfl, q0, q1⟩ := cells_two h2
      obtain ⟨xs, n, -, hx, hl, hlen, hfd⟩ := DataW.trod_struct Tryz.underlying49 h3
      obtain ⟨y0, y1, rfl⟩ := two_of xs hlen
      have g0 : DataW.trod enc Tryz.prog w 0 (fun _ => true) true n 9 (([v0, v1].drop 0).take (Tryz.prog.cellsOf 9)) = some y0 := hfd 0 _ rfl
      rw [cells9] at g0
      have g1 : DataW.trod enc Tryz.prog w 0 (fun _ => true) true n 3 (([v0, v1].drop 1).take (Tryz.prog.cellsOf 3)) = some y1 := hfd 1 _ rfl
      rw [cells3] at g1
      obtain ⟨k1, e1, -, -⟩ := DataW.trod_int Tryz.underlying3 (g1 : DataW.trod enc Tryz.prog w 0 (fun _ => true) true n 3 [v1] = some y1)
      obtain ⟨t, e4, e5, _⟩ := DataW.trod_string Tryz.underlying9 (g0 : DataW.trod enc Tryz.prog w 0 (fun _ => true) true n 9 [v0] = some y0)
      cases e1; cases e4
      refine ⟨⟨bs t, k1⟩, hi2, by rw [mk_bs]; exact q0, q1, ?_⟩
      rw [hx]
      subst e5
      simp only [Rows.uptoBulk, Rows.uptoBulkAll, List.map_cons, List.map_nil]
      show t.data.toList.length + 1 ≤ _
      omega
    obtain ⟨T, hT⟩ := Deep.choose_lt hch
    refine ⟨(List.range len).map T, ⟨some a, cap, by simp, ?_⟩, ?_⟩
    · rcases Nat.eq_zero_or_pos len with h0 | hp
      · left; rw [h0]; rfl
      · right
        have hs : a.spot = none := by
          obtain ⟨_, h1, _⟩ := hT 0 hp
          have := spot_none h1
          simpa [Addr.add] using this
        refine ⟨a.block, a.off, ?_, fun k hk => ?_⟩
        · obtain ⟨b, o, s⟩ := a; obtain rfl : s = none := hs; rfl
        · have hk' : k < len := by simpa using hk
          obtain ⟨_, h1, h2, _⟩ := hT k hk'
          rw [add_of hs, add_off] at h1 h2
          simp only [List.getElem_map, List.getElem_range]
          exact ⟨h1, h2⟩
    · have := bulk_sum (elems.map (·.1)) (fun i => (T i).1.length + 1) (fun i hi => by
        have hi' : i < len := by rw [List.length_map, hel] at hi; exact hi
        obtain ⟨_, _, _, h2⟩ := hT i hi'
        rw [List.getElem_map]
        exact h2)
      rw [List.length_map, hel] at this
      have e : wt ((List.range len).map T) = ((List.range len).map fun i => (T i).1.length + 1).sum := by
        unfold wt
        rw [List.map_map]
        rfl
      rw [e]
      simp only [Rows.uptoBulk]
      omega
end Go.Proofs.YtfkilbhhpipjbaaGreatDoor.StepD
