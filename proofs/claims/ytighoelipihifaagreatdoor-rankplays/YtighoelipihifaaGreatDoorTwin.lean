/- The law's own twin. -/
import Derived.Test.YtighoelipihifaaGreatDoorOf
namespace Go.Proofs.YtighoelipihifaaGreatDoor.Twin
open Go.RowKit Go.Maps Go.Sort
open Go.Proofs.YtighoelipihifaaGreatDoor.MapMath
open Go.Proofs.YtighoelipihifaaGreatDoor.RankMath
open Go.Proofs.YtighoelipihifaaGreatDoor.RankMath2
open Go.Proofs.YtighoelipihifaaGreatDoor.RankMath3
open Go.Proofs.YtighoelipihifaaGreatDoor.Base
open Go.Proofs.YtighoelipihifaaGreatDoor.Cmp
open Go.Proofs.YtighoelipihifaaGreatDoor.Sorts
open Go.Proofs.YtighoelipihifaaGreatDoor.Rank1
open Go.Proofs.YtighoelipihifaaGreatDoor.Run
open Go.Proofs.YtighoelipihifaaGreatDoor.Bound
open Go.Proofs.YtighoelipihifaaGreatDoor.Seek
open Go.Proofs.YtighoelipihifaaGreatDoor.Scores
open Go.Proofs.YtighoelipihifaaGreatDoor.Names
open Go.Proofs.YtighoelipihifaaGreatDoor.Of
set_option linter.unusedVariables false

set_option maxHeartbeats 1000000 in
set_option maxRecDepth 100000 in
theorem twin_call (v : Value) (l : EL) (w : World) (h : FS w v l) (hn : l.length ≤ big) : Calls Tryz.prog 7 #[v] w fun e w' => RunE l w e w' := by
  obtain ⟨v', W', hr, hbd⟩ := bd_app (bd_start w) v l h (by simpa using hn)
  rw [List.nil_append] at hbd
  have HB := hid_of hbd
  clear hbd h
  go_enter Tryz.func7, Tryz.ntmps7
  go_wp2_with (at_builtin; refine wpl_eq rfl _ _ 22 22 rfl (.slice none 0 0) v v' _ W' rfl rfl hr ?_)
  go_ret
  exact ⟨v', rfl, HB.out.row, HB.out.bel⟩
end Go.Proofs.YtighoelipihifaaGreatDoor.Twin
