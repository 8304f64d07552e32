/- From what a bound reads as to its fields. -/
import Derived.Test.YtighoelipihifaaGreatDoorOpenF
import Derived.Test.YtighoelipihifaaGreatDoorBound
namespace Go.Proofs.YtighoelipihifaaGreatDoor.OpenB
open Go.ChangeShapes Go.WideShapes Go.RowKit
open Go.Proofs.YtighoelipihifaaGreatDoor.RankMath3
open Go.Proofs.YtighoelipihifaaGreatDoor.Base
open Go.Proofs.YtighoelipihifaaGreatDoor.Bound
open Go.Proofs.YtighoelipihifaaGreatDoor.OpenF
set_option linter.unusedVariables false
theorem cellsB : Tryz.prog.cellsOf 39 = 4 := by kernel_rfl
theorem cellsL : Tryz.prog.cellsOf 4 = 1 := by kernel_rfl
theorem four_of {α : Type} (l : List α) (h : l.length = 4) : ∃ a0 a1 a2 a3, l = [a0, a1, a2, a3] := by
  match l, h with
  | [a0, a1, a2, a3], _ => exact ⟨a0, a1, a2, a3, rfl⟩
theorem agg4 {v c0 c1 c2 c3 : Value} (h : v.cells.toList = [c0, c1, c2, c3]) : v = .agg #[c0, c1, c2, c3] := by
  cases v with
  | agg a =>
    have : a.toList = [c0, c1, c2, c3] := h
    obtain ⟨l⟩ := a
    simp at this
    rw [this]
  | _ => simp [Value.cells] at h
theorem openB {H : Type} {enc : TypeId × Value → H} {w : World} {v : Value} {d : DataW H} {p : List MemPlace} (h : DataW.Trod enc Tryz.prog w 0 (fun _ => true) true 39 v d p) : ∃ b : Bnd, v = bV b := by
  obtain ⟨fuel, hf⟩ := h
  obtain ⟨xs, n, -, hxs, hl, hlen, hfd⟩ := DataW.trod_struct Tryz.underlying39 hf
  rw [cellsB] at hl
  obtain ⟨c0, c1, c2, c3, hcs⟩ := four_of _ hl
  obtain ⟨y0, y1, y2, y3, rfl⟩ := four_of xs hlen
  rw [hcs] at hfd
  have g0 : DataW.trod enc Tryz.prog w 0 (fun _ => true) true n 3 (([c0, c1, c2, c3].drop 0).take (Tryz.prog.cellsOf 3)) = some y0 := hfd 0 _ rfl
  rw [cellsI] at g0
  have g1 : DataW.trod enc Tryz.prog w 0 (fun _ => true) true n 4 (([c0, c1, c2, c3].drop 1).take (Tryz.prog.cellsOf 4)) = some y1 := hfd 1 _ rfl
  rw [cellsL] at g1
  have g2 : DataW.trod enc Tryz.prog w 0 (fun _ => true) true n 3 (([c0, c1, c2, c3].drop 2).take (Tryz.prog.cellsOf 3)) = some y2 := hfd 2 _ rfl
  rw [cellsI] at g2
  have g3 : DataW.trod enc Tryz.prog w 0 (fun _ => true) true n 9 (([c0, c1, c2, c3].drop 3).take (Tryz.prog.cellsOf 9)) = some y3 := hfd 3 _ rfl
  rw [cellsS] at g3
  obtain ⟨k0, e0, -, -⟩ := DataW.trod_int Tryz.underlying3 (g0 : DataW.trod enc Tryz.prog w 0 (fun _ => true) true n 3 [c0] = some y0)
  obtain ⟨k1, e1, -⟩ := DataW.trod_bool Tryz.underlying4 (g1 : DataW.trod enc Tryz.prog w 0 (fun _ => true) true n 4 [c1] = some y1)
  obtain ⟨k2, e2, -, -⟩ := DataW.trod_int Tryz.underlying3 (g2 : DataW.trod enc Tryz.prog w 0 (fun _ => true) true n 3 [c2] = some y2)
  obtain ⟨t3, e3, -, -⟩ := DataW.trod_string Tryz.underlying9 (g3 : DataW.trod enc Tryz.prog w 0 (fun _ => true) true n 9 [c3] = some y3)
  cases e0; cases e1; cases e2; cases e3
  exact ⟨⟨k0, k1, k2, bs t3⟩, by unfold bV; rw [mk_bs]; exact agg4 hcs⟩
end Go.Proofs.YtighoelipihifaaGreatDoor.OpenB
