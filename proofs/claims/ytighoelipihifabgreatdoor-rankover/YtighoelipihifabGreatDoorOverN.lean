/- The law RankOver. -/
import Derived.Test.YtighoelipihifabGreatDoorOverM
import Derived.Test.YtighoelipihifabGreatDoorTwin
import Derived.Test.YtighoelipihifabGreatDoorRef1
import Derived.Test.YtighoelipihifabGreatDoorSure
namespace Go.Proofs.YtighoelipihifabGreatDoor.OverN
open Go.RowKit Go.Maps Go.Sort Go.Shelf
open Go.Proofs.YtighoelipihifabGreatDoor.MapMath
open Go.Proofs.YtighoelipihifabGreatDoor.RankMath
open Go.Proofs.YtighoelipihifabGreatDoor.RankMath2
open Go.Proofs.YtighoelipihifabGreatDoor.RankMath3
open Go.Proofs.YtighoelipihifabGreatDoor.Base
open Go.Proofs.YtighoelipihifabGreatDoor.Rank1
open Go.Proofs.YtighoelipihifabGreatDoor.Run
open Go.Proofs.YtighoelipihifabGreatDoor.Seek
open Go.Proofs.YtighoelipihifabGreatDoor.Names
open Go.Proofs.YtighoelipihifabGreatDoor.Of
open Go.Proofs.YtighoelipihifabGreatDoor.Twin
open Go.Proofs.YtighoelipihifabGreatDoor.Ref1
open Go.Proofs.YtighoelipihifabGreatDoor.Sure
open Go.Proofs.YtighoelipihifabGreatDoor.OverA
open Go.Proofs.YtighoelipihifabGreatDoor.OverM
open Go.Proofs.YtighoelipihifabGreatDoor.Parse (Has)
set_option linter.unusedVariables false
set_option linter.unusedSimpArgs false
attribute [local go_sem] Oper.semAt_some
set_option maxHeartbeats 4000000 in
set_option maxRecDepth 100000 in
theorem over_no (v : Value) (l : EL) (lv : Int) (w : World) (h : FS w v l) (hno : ¬ (AllMay l ∧ Uq l)) (hn : l.length ≤ 5864062014634) (hk : ∀ p ∈ l, p.1.length ≤ 140737488355328) (hh : Has w) : Calls Tryz.prog 4 #[v, .int .i64 lv] w fun e w' => e = .returned (.bool true) ∧ Below w.heap.size w w' := by
  have hbig : l.length ≤ big := Nat.le_trans hn (by decide)
  have HF := hid_of h
  have HH := hid_of hh
  have HK := hid_of hk
  have bL : Below w.heap.size w (w.alloc (.cells #[.int .i64 lv] 3)) := bnew w _
  have BL := hid_of bL
  have H1 := hid_of (twin_call v l _ (h.below bL) hbig)
  have H8 := hid_of sure_call
  obtain ⟨a, c, rfl, hc, h'⟩ := h
  clear h' hk hh bL
  go_enter Tryz.func4, Tryz.ntmps4
  go_wp2_with fail
  refine H1.out.mono ?_
  rintro e w1 ⟨v1, rfl, o1, b1⟩
  have H2 := hid_of (of_call v1 l w1 (fs_row o1) hbig HK.out)
  have B1 := hid_of (Base.bel BL.out b1 (Nat.le_refl _))
  clear o1 b1 H1
  go_wp2_with fail
  refine H2.out.mono ?_
  rintro e w2 ⟨b2, hcase⟩
  have B2 := hid_of (Base.bel (Base.bel B1.out b2 (Nat.le_refl _)) (bnew w2 (.cells #[.pointer none] 23)) (Nat.le_refl _))
  have H3 := hid_of (rof_call (.slice a l.length c) l _ (HF.out.below B2.out) hbig)
  clear b2 H2
  rcases hcase with ⟨hA, rfl⟩ | ⟨hA, hU, rfl⟩ | ⟨hA, hU, _⟩
  · go_wp2_with fail
    refine H3.out.mono ?_
    rintro e w3 ⟨b3, ⟨_, rfl⟩ | ⟨hA2, _⟩ | ⟨hA2, _⟩⟩
    rotate_left
    · exact absurd hA2 hA
    · exact absurd hA2 hA
    have B3 := hid_of (Base.bel B2.out b3 (Nat.le_refl _))
    have H5 := hid_of (H8.out w3 (HH.out.later B3.out))
    clear b3 H3
    go_wp2_with fail
    refine H5.out.mono ?_
    rintro e w5 hw5
    obtain ⟨rfl, b5⟩ := hw5
    have B5 := hid_of (Base.bel B3.out b5 (Nat.le_refl _))
    clear b5
    go_wp2_with fail
    go_ret
    exact ⟨rfl, B5.out⟩
  · go_wp2_with fail
    refine H3.out.mono ?_
    rintro e w3 ⟨b3, ⟨hA2, _⟩ | ⟨_, _, rfl⟩ | ⟨_, hU2, _⟩⟩
    · exact absurd hA hA2
    rotate_left
    · exact absurd hU2 hU
    have B3 := hid_of (Base.bel B2.out b3 (Nat.le_refl _))
    have H5 := hid_of (H8.out w3 (HH.out.later B3.out))
    clear b3 H3
    go_wp2_with fail
    refine H5.out.mono ?_
    rintro e w5 hw5
    obtain ⟨rfl, b5⟩ := hw5
    have B5 := hid_of (Base.bel B3.out b5 (Nat.le_refl _))
    clear b5
    go_wp2_with fail
    go_ret
    exact ⟨rfl, B5.out⟩
  · exact absurd ⟨hA, hU⟩ hno
end Go.Proofs.YtighoelipihifabGreatDoor.OverN
