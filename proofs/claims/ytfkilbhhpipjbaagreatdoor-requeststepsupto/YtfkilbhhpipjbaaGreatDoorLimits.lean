/- Limits as an argument: what they read as. -/
import Derived.Test.YtfkilbhhpipjbaaGreatDoorData
import Derived.Test.YtfkilbhhpipjbaaGreatDoorSmall
import Derived.Lay
import Derived.Deep.DeepHandedRow
namespace Go.Proofs.YtfkilbhhpipjbaaGreatDoor.Limits
open Go.ChangeShapes Go.WideShapes Go.RowKit
open Go.Proofs.YtfkilbhhpipjbaaGreatDoor.ReqMath
open Go.Proofs.YtfkilbhhpipjbaaGreatDoor.Base
open Go.Proofs.YtfkilbhhpipjbaaGreatDoor.Small
set_option linter.unusedVariables false
theorem three_of {α : Type} (l : List α) (h : l.length = 3) : ∃ a b c, l = [a, b, c] := by
  match l, h with
  | [a, b, c], _ => exact ⟨a, b, c, rfl⟩
theorem agg_of {v : Value} {c0 c1 c2 : Value} (h : v.cells.toList = [c0, c1, c2]) : v = .agg #[c0, c1, c2] := by
  cases v with
  | agg cs =>
    have : cs = #[c0, c1, c2] := by
      apply Array.toList_inj.1
      exact h
    rw [this]
  | _ => simp [Value.cells] at h
theorem open_lim {H : Type} {enc : TypeId × Value → H} {w : World} {v : Value} {d : DataW H} {p : List MemPlace} (h : DataW.Trod enc Tryz.prog w 0 (fun _ => true) true 23 v d p) : ∃ x y z : Int, v = .agg #[.int .i64 x, .int .i64 y, .int .i64 z] := by
  obtain ⟨fuel, hf⟩ := h
  obtain ⟨xs, n, -, -, hl, hlen, hfd⟩ := DataW.trod_struct Tryz.underlying23 hf
  rw [Data.cells23] at hl
  obtain ⟨c0, c1, c2, hcs⟩ := three_of _ hl
  obtain ⟨y0, y1, y2, rfl⟩ := three_of xs hlen
  rw [hcs] at hfd
  have g0 : DataW.trod enc Tryz.prog w 0 (fun _ => true) true n 3 (([c0, c1, c2].drop 0).take (Tryz.prog.cellsOf 3)) = some y0 := hfd 0 _ rfl
  rw [Data.cells3] at g0
  have g1 : DataW.trod enc Tryz.prog w 0 (fun _ => true) true n 3 (([c0, c1, c2].drop 1).take (Tryz.prog.cellsOf 3)) = some y1 := hfd 1 _ rfl
  rw [Data.cells3] at g1
  have g2 : DataW.trod enc Tryz.prog w 0 (fun _ => true) true n 3 (([c0, c1, c2].drop 2).take (Tryz.prog.cellsOf 3)) = some y2 := hfd 2 _ rfl
  rw [Data.cells3] at g2
  obtain ⟨k0, e0, -, -⟩ := DataW.trod_int Tryz.underlying3 (g0 : DataW.trod enc Tryz.prog w 0 (fun _ => true) true n 3 [c0] = some y0)
  obtain ⟨k1, e1, -, -⟩ := DataW.trod_int Tryz.underlying3 (g1 : DataW.trod enc Tryz.prog w 0 (fun _ => true) true n 3 [c1] = some y1)
  obtain ⟨k2, e2, -, -⟩ := DataW.trod_int Tryz.underlying3 (g2 : DataW.trod enc Tryz.prog w 0 (fun _ => true) true n 3 [c2] = some y2)
  cases e0; cases e1; cases e2
  exact ⟨k0, k1, k2, agg_of hcs⟩
theorem lim_of {x y z : Int} (h : okB x y z = true) : ∃ L : Lim, okB L.bulk L.args L.line = true ∧ (.agg #[.int .i64 x, .int .i64 y, .int .i64 z] : Value) = limV L := by
  obtain ⟨h1, h2, h3, h4, h5, h6⟩ := of_decide_eq_true h
  obtain ⟨a, rfl⟩ : ∃ a : Nat, x = a := ⟨x.toNat, by omega⟩
  obtain ⟨b, rfl⟩ : ∃ b : Nat, y = b := ⟨y.toNat, by omega⟩
  obtain ⟨c, rfl⟩ : ∃ c : Nat, z = c := ⟨z.toNat, by omega⟩
  exact ⟨⟨a, b, c⟩, h, rfl⟩
theorem witness_zip {H : Type} {enc : TypeId × Value → H} {C : Checked} {os : Os} {f : FuncId} {fn : Func} {s : OpenSpec} {conds : List PathCond} {apart : Bool} {laid : List (String × DataW Unit)} (modest : Bool) (w0 : World) (args : Array Value) (hos : w0.os = os)
    (hs : (w0.forCall (fun _ _ => 0) ⟨#[], args, []⟩).Shaped C.prog)
    (hok : Input.okWideB C.prog (w0.forCall (fun _ _ => 0) ⟨#[], args, []⟩) f ⟨#[], args, []⟩ = true)
    (hrow : s.preRow enc C.prog fn conds apart laid (w0.forCall (fun _ _ => 0) ⟨#[], args, []⟩).memory args) :
    ∃ (w : World) (tape : Tape) (i : Input), w.os = os ∧ (w.forCall tape i).Shaped C.prog ∧ i.vars = [] ∧ Input.okWide C.prog (w.forCall tape i) .any w.heap.size f i ∧
      s.preRow enc C.prog fn conds apart laid (w.forCall tape i).memory i.args ∧ ({ modest := modest } : Assume).holds C.prog (lone (Frame.enter C.prog f i.args .normal) [] (w.forCall tape i)) :=
  ⟨w0, fun _ _ => 0, ⟨#[], args, []⟩, hos, hs, (Input.okWide_of_okWideB (base := 0) hok).1, (Input.okWide_of_okWideB hok).2, hrow, by
    simp only [Assume.holds]
    exact ⟨by simp, by simp, fun _ => Modest.zero, by simp, by simp⟩⟩
end Go.Proofs.YtfkilbhhpipjbaaGreatDoor.Limits
