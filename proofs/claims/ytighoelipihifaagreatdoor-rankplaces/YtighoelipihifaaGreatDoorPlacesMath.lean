/- Places in a rank's order, counted from either end: no program is met here. -/
import Derived.Test.YtighoelipihifaaGreatDoorRankMath3
import Derived.Test.YtighoelipihifaaGreatDoorBase
import Derived.Test.YtighoelipihifaaGreatDoorSeek
namespace Go.Proofs.YtighoelipihifaaGreatDoor.PlacesMath
open Go.Proofs.YtighoelipihifaaGreatDoor.MapMath
open Go.Proofs.YtighoelipihifaaGreatDoor.RankMath
open Go.Proofs.YtighoelipihifaaGreatDoor.RankMath2
open Go.Proofs.YtighoelipihifaaGreatDoor.RankMath3
open Go.Proofs.YtighoelipihifaaGreatDoor.Base
open Go.Proofs.YtighoelipihifaaGreatDoor.Seek
set_option linter.unusedVariables false
theorem ok_get (l : EL) {i : Nat} (h : i < l.length) : ok l (l[i]'h).1 = true := ok_iff.2 ⟨_, List.getElem_mem h, rfl⟩
theorem place_f {l : EL} (u : Uq l) {i : Nat} (h : i < l.length) : placeS l (l[i]'h).1 false = (i : Int) := by
  unfold placeS
  simp [ok_get l h, plc_get u h]
theorem place_t {l : EL} (u : Uq l) {i : Nat} (h : i < l.length) : placeS l (l[i]'h).1 true = ((l.length - 1 - i : Nat) : Int) := by
  unfold placeS
  have e := plc_rev u (ok_get l h)
  rw [plc_get u h] at e
  simp [ok_get l h, plc_get u h]
  omega
theorem val_get {l m : EL} (u : Uq l) (hp : m.Perm l) {i : Nat} (h : i < l.length) : valI m (l[i]'h).1 = (l[i]'h).2 ∧ ok m (l[i]'h).1 = true := by
  have um : Uq m := uq_perm hp.symm u
  have e : lkp m (l[i]'h).1 = some (l[i]'h).2 := (lkp_iff um).2 (hp.mem_iff.2 (List.getElem_mem h))
  refine ⟨by unfold valI; rw [e]; rfl, by unfold ok; rw [e]; rfl⟩
theorem one_of (l : EL) {i : Nat} (h : i < l.length) : (l.drop i).take 1 = [l[i]'h] := by
  rw [List.drop_eq_getElem_cons h]
  rfl
theorem slice_f (l : EL) {i : Nat} (h : i < l.length) : slS l i i false = [l[i]'h] := by
  have e1 : fromS l.length i = (i : Int) := by unfold fromS; rw [if_neg (by omega)]
  have e2 : toS l.length i = (i : Int) := by unfold toS; rw [if_neg (by omega)]; omega
  unfold slS
  rw [e1, e2, if_neg (by omega)]
  show ((way l false).drop (i : Int).toNat).take ((i : Int) - i + 1).toNat = _
  rw [show (i : Int).toNat = i by omega, show ((i : Int) - i + 1).toNat = 1 by omega]
  exact one_of l h
theorem slice_t (l : EL) {i : Nat} (h : i < l.length) : slS l (-1 - (i : Int)) (-1 - (i : Int)) true = [l[i]'h] := by
  have e1 : fromS l.length (-1 - (i : Int)) = ((l.length - 1 - i : Nat) : Int) := by unfold fromS; rw [if_pos (by omega)]; omega
  have e2 : toS l.length (-1 - (i : Int)) = ((l.length - 1 - i : Nat) : Int) := by unfold toS; rw [if_pos (by omega)]; omega
  unfold slS
  rw [e1, e2, if_neg (by omega)]
  show ((way l true).drop ((l.length - 1 - i : Nat) : Int).toNat).take (((l.length - 1 - i : Nat) : Int) - ((l.length - 1 - i : Nat) : Int) + 1).toNat = _
  rw [show ((l.length - 1 - i : Nat) : Int).toNat = l.length - 1 - i by omega, show (((l.length - 1 - i : Nat) : Int) - ((l.length - 1 - i : Nat) : Int) + 1).toNat = 1 by omega]
  have hr : l.length - 1 - i < l.reverse.length := by rw [List.length_reverse]; omega
  rw [show way l true = l.reverse from rfl, one_of l.reverse hr]
  congr 1
  rw [List.getElem_reverse]
  congr 1
  omega
theorem next_of {l : EL} (hs : Srt l) {i : Nat} (h : i + 1 < l.length) : (l[i]'(by omega)).2 < (l[i + 1]'h).2 ∨ ((l[i]'(by omega)).2 = (l[i + 1]'h).2 ∧ (l[i]'(by omega)).1 < (l[i + 1]'h).1) := List.pairwise_iff_getElem.1 hs i (i + 1) (by omega) h (by omega)
end Go.Proofs.YtighoelipihifaaGreatDoor.PlacesMath
