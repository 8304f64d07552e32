/- The law's own twin. -/
import Derived.Test.YtighoelipihifabGreatDoorOf
namespace Go.Proofs.YtighoelipihifabGreatDoor.Twin
open Go.RowKit Go.Maps Go.Sort
open Go.Proofs.YtighoelipihifabGreatDoor.MapMath
open Go.Proofs.YtighoelipihifabGreatDoor.RankMath
open Go.Proofs.YtighoelipihifabGreatDoor.RankMath2
open Go.Proofs.YtighoelipihifabGreatDoor.RankMath3
open Go.Proofs.YtighoelipihifabGreatDoor.Base
open Go.Proofs.YtighoelipihifabGreatDoor.Cmp
open Go.Proofs.YtighoelipihifabGreatDoor.Sorts
open Go.Proofs.YtighoelipihifabGreatDoor.Rank1
open Go.Proofs.YtighoelipihifabGreatDoor.Run
open Go.Proofs.YtighoelipihifabGreatDoor.Bound
open Go.Proofs.YtighoelipihifabGreatDoor.Seek
open Go.Proofs.YtighoelipihifabGreatDoor.Scores
open Go.Proofs.YtighoelipihifabGreatDoor.Names
open Go.Proofs.YtighoelipihifabGreatDoor.Of
set_option linter.unusedVariables false

set_option maxHeartbeats 1000000 in
set_option maxRecDepth 100000 in
theorem twin_call (v : Value) (l : EL) (w : World) (h : FS w v l) (hn : l.length ≤ big) : Calls Tryz.prog 6 #[v] w fun e w' => RunE l w e w' := by
  obtain ⟨v', W', hr, hbd⟩ := bd_app (bd_start w) v l h (by simpa using hn)
  rw [List.nil_append] at hbd
  have HB := hid_of hbd
  clear hbd h
  go_enter Tryz.func6, Tryz.ntmps6
  go_wp2_with (at_builtin; refine wpl_eq rfl _ _ 22 22 rfl (.slice none 0 0) v v' _ W' rfl rfl hr ?_)
  go_ret
  exact ⟨v', rfl, HB.out.row, HB.out.bel⟩
end Go.Proofs.YtighoelipihifabGreatDoor.Twin
