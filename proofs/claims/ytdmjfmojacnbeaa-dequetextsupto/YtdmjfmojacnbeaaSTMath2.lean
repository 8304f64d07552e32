/- What is done to the texts of a list is done to the list: places, pieces, removing, inserting. -/
import Derived.Test.YtdmjfmojacnbeaaSTMath
import Derived.Test.YtdmjfmojacnbeaaSInsert
import Derived.Test.YtdmjfmojacnbeaaDoA
namespace Go.Proofs.Ytdmjfmojacnbeaa.STMath2
open Go.RowKit
open Go.Proofs.Ytdmjfmojacnbeaa.FindMath
open Go.Proofs.Ytdmjfmojacnbeaa.TextMath
open Go.Proofs.Ytdmjfmojacnbeaa.STMath
open Go.Proofs.Ytdmjfmojacnbeaa.STexts (prt)
set_option linter.unusedVariables false
theorem clamp_eq (x : Int) (k : Nat) : SKeep.clamp x k = Keep.clamp x k := rfl
theorem idx_eq (n : Nat) (i : Int) : SPlace.idx n i = Place.idx n i := rfl
theorem drop_map (l : List Int) (i : Nat) (ps : List Nat) : SDropC.dropS (l.map prt) i ps = (DropC.dropS l i ps).map prt := by
  induction l generalizing i ps with
  | nil => cases ps <;> rfl
  | cons x r ih =>
    cases ps with
    | nil => rw [List.map_cons, SDropC.dropS, DropC.dropS, List.map_cons, ih]
    | cons p ps =>
      rw [List.map_cons, SDropC.dropS, DropC.dropS]
      split
      · exact ih _ _
      · rw [List.map_cons, ih]
theorem remP_map {l : List Int} {v : Int} (hl : ∀ x ∈ l, InI x) (hv : InI v) (c : Int) : SRemove.remP (l.map prt) c (prt v) = Remove.remP l c v := by
  unfold SRemove.remP Remove.remP
  rw [List.length_map, findN_map hl hv, findN_map hl hv]
theorem ins_map (l : List Int) (k : Nat) (v : Int) : SInsert.insS (l.map prt) k (prt v) = (Insert.insS l k v).map prt := by
  unfold SInsert.insS Insert.insS
  rw [List.map_append, List.map_cons, List.map_take, List.map_drop]
theorem piece_map (l : List Int) (x y : Int) : SPiece.pieceS (l.map prt) x y = (Piece.pieceS l x y).map prt := by
  unfold SPiece.pieceS Piece.pieceS
  rw [List.length_map, List.map_take, List.map_drop]
  rfl
theorem at_map (l : List Int) (i : Int) : SPlace.atS (l.map prt) i = if (Place.atS l i).2 then (prt (Place.atS l i).1, true) else (⟨#[]⟩, false) := by
  unfold SPlace.atS Place.atS
  rw [List.length_map, idx_eq]
  cases h : Place.idx l.length i with
  | none => rfl
  | some k =>
    have hk := Place.idx_lt h
    simp [hk]
end Go.Proofs.Ytdmjfmojacnbeaa.STMath2
