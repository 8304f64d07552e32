/- What the law RankParts says, as mathematics. -/
import Derived.Test.YtighoelipihifaaGreatDoorRankMath3
namespace Go.Proofs.YtighoelipihifaaGreatDoor.PartsMath
open Go.Proofs.YtighoelipihifaaGreatDoor.MapMath
open Go.Proofs.YtighoelipihifaaGreatDoor.RankMath
open Go.Proofs.YtighoelipihifaaGreatDoor.RankMath2
open Go.Proofs.YtighoelipihifaaGreatDoor.RankMath3
set_option linter.unusedVariables false

abbrev pInf : Bnd := ⟨1, false, 0, []⟩
abbrev mInf : Bnd := ⟨-1, false, 0, []⟩
theorem cut_all (l : EL) : cutS l 0 (-1) = l := by
  unfold cutS clampS
  rw [if_neg (by omega)]
  simp
def midS (L : EL) (lo hi : Bnd) : EL := scS L lo hi false 0 (-1)
theorem mid_eq {L : EL} (hs : Srt L) (lo hi : Bnd) : midS L lo hi = (L.drop (cntL L lo)).take (cntU L hi - cntL L lo) := by
  unfold midS scS way
  rw [cut_all, if_neg (by simp), scF_eq hs]
theorem back_eq (L : EL) (lo hi : Bnd) : scS L lo hi true 0 (-1) = (midS L lo hi).reverse := by
  unfold midS scS way
  rw [cut_all, cut_all, if_pos rfl, if_neg (by simp)]
theorem cntU_inf (L : EL) : cntU L pInf = L.length := by
  unfold cntU
  rw [List.countP_eq_length]
  intro a _
  rfl
theorem cntL_inf (L : EL) : cntL L mInf = 0 := by
  unfold cntL
  rw [List.countP_eq_zero]
  intro a _
  simp [scL, fitL]
theorem from_len {L : EL} (hs : Srt L) (lo : Bnd) : (scS L lo pInf false 0 (-1)).length = L.length - cntL L lo := by
  have := mid_eq hs lo pInf
  unfold midS at this
  rw [this, cntU_inf, List.length_take, List.length_drop]
  omega
theorem upto_len {L : EL} (hs : Srt L) (hi : Bnd) : (scS L mInf hi false 0 (-1)).length = cntU L hi := by
  have := mid_eq hs mInf hi
  unfold midS at this
  have h := cntU_le L hi
  rw [this, cntL_inf, List.length_take, List.length_drop]
  omega
theorem all_eq {L : EL} (hs : Srt L) : scS L mInf pInf false 0 (-1) = L := by
  have := mid_eq hs mInf pInf
  unfold midS at this
  rw [this, cntL_inf, cntU_inf, List.drop_zero, Nat.sub_zero, List.take_length]
theorem mid_len {L : EL} (hs : Srt L) (lo hi : Bnd) : (midS L lo hi).length = cntU L hi - cntL L lo := by
  have h := cntU_le L hi
  rw [mid_eq hs, List.length_take, List.length_drop]
  omega
theorem mid_at {L : EL} (hs : Srt L) (lo hi : Bnd) {i : Nat} (h : i < (midS L lo hi).length) : cntL L lo + i < L.length := by
  have h1 := cntU_le L hi
  rw [mid_len hs] at h
  omega
theorem mid_get {L : EL} (hs : Srt L) (lo hi : Bnd) {i : Nat} (h : i < (midS L lo hi).length) : (midS L lo hi)[i] = L[cntL L lo + i]'(mid_at hs lo hi h) := by
  simp only [mid_eq hs lo hi, List.getElem_take, List.getElem_drop]
theorem back_get (M : EL) {i : Nat} (h : i < M.length) : (M.reverse)[M.length - 1 - i]'(by rw [List.length_reverse]; omega) = M[i] := by
  rw [List.getElem_reverse]
  congr 1
  omega
theorem mid_le (L : EL) (lo hi : Bnd) (hs : Srt L) : (midS L lo hi).length ≤ L.length := by
  have h := cntU_le L hi
  rw [mid_len hs]
  omega
end Go.Proofs.YtighoelipihifaaGreatDoor.PartsMath
