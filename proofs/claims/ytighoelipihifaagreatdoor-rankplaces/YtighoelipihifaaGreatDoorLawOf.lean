/- The law RankOf; what a rank of a twin is. -/
import Derived.Test.YtighoelipihifaaGreatDoorRef1
import Derived.Test.YtighoelipihifaaGreatDoorSure
namespace Go.Proofs.YtighoelipihifaaGreatDoor.LawOf
open Go.RowKit Go.Maps Go.Sort
open Go.Proofs.YtighoelipihifaaGreatDoor.MapMath
open Go.Proofs.YtighoelipihifaaGreatDoor.RankMath
open Go.Proofs.YtighoelipihifaaGreatDoor.RankMath2
open Go.Proofs.YtighoelipihifaaGreatDoor.RankMath3
open Go.Proofs.YtighoelipihifaaGreatDoor.Base
open Go.Proofs.YtighoelipihifaaGreatDoor.Rank1
open Go.Proofs.YtighoelipihifaaGreatDoor.Run
open Go.Proofs.YtighoelipihifaaGreatDoor.Of
open Go.Proofs.YtighoelipihifaaGreatDoor.Twin
open Go.Proofs.YtighoelipihifaaGreatDoor.Ref1
open Go.Proofs.YtighoelipihifaaGreatDoor.Sure
open Go.Proofs.YtighoelipihifaaGreatDoor.Parse (Has)
set_option linter.unusedVariables false

theorem eqPn (w : World) : (binOp .eql 24 (.pointer none) (.pointer none)).run Tryz.prog w = .ok (.bool true) w := by kernel_rfl
set_option maxHeartbeats 8000000 in
set_option maxRecDepth 100000 in
theorem rankOf_call (v : Value) (l : EL) (w : World) (h : FS w v l) (hn : l.length ≤ big) (hk : ∀ p ∈ l, p.1.length ≤ 140737488355328) (hh : Has w) : Calls Tryz.prog 3 #[v] w fun e w' => e = .returned (.bool true) ∧ Below w.heap.size w w' := by
  have HF := hid_of h
  have HH := hid_of hh
  have HK := hid_of hk
  have H1 := hid_of (twin_call v l w h hn)
  have HQ := hid_of eqP
  have HQ0 := hid_of eqPn
  obtain ⟨a, c, rfl, hc, h'⟩ := h
  clear h' hk hh
  go_enter Tryz.func3, Tryz.ntmps3
  go_wp2_with fail
  refine H1.out.mono ?_
  rintro e w1 ⟨v1, rfl, o1, b1⟩
  have H2 := hid_of (of_call v1 l w1 (fs_row o1) hn HK.out)
  have O1 := hid_of o1
  have B1 := hid_of b1
  clear o1 b1 H1
  go_wp2_with fail
  refine H2.out.mono ?_
  rintro e w2 ⟨b2, hcase⟩
  have B2 := hid_of (Base.bel B1.out b2 (Nat.le_refl _))
  have B12 := hid_of b2
  have H3 := hid_of (rof_call (.slice a l.length c) l w2 (HF.out.below B2.out) hn)
  have hS : ∀ w3, Below w2.heap.size w2 w3 → Calls Tryz.prog 10 #[v1, .slice a l.length c] w3 fun e w' => e = .returned (.bool true) ∧ Below w3.heap.size w3 w' := fun w3 b3 => by
    have := same_call v1 (.slice a l.length c) l l w3 ((fs_row O1.out).below (Base.bel b2 b3 (Nat.le_refl _))) (HF.out.below (Base.bel B2.out b3 (Nat.le_refl _))) hn hn
    rw [decide_eq_true rfl] at this
    exact this
  have HS := hid_of hS
  clear hS b2 H2
  rcases hcase with ⟨hA, rfl⟩ | ⟨hA, hU, rfl⟩ | ⟨hA, hU, b, rfl, rk⟩
  · have q0 := HQ0.out
    go_wp2_with fail
    refine H3.out.mono ?_
    rintro e w3 ⟨b3, ⟨_, rfl⟩ | ⟨hA2, _⟩ | ⟨hA2, _⟩⟩
    rotate_left
    · exact absurd hA2 hA
    · exact absurd hA2 hA
    have H4 := hid_of (HS.out w3 b3)
    have B3 := hid_of (Base.bel B2.out b3 (Nat.le_refl _))
    clear b3 H3
    go_wp2_with fail
    refine H4.out.mono ?_
    rintro e w4 hw4
    obtain ⟨rfl, b4⟩ := hw4
    have B4 := hid_of (Base.bel B3.out b4 (Nat.le_refl _))
    have H5 := hid_of (sure_call w4 (HH.out.later B4.out))
    clear b4 H4
    go_wp2_with fail
    refine H5.out.mono ?_
    rintro e w5 hw5
    obtain ⟨rfl, b5⟩ := hw5
    have B5 := hid_of (Base.bel B4.out b5 (Nat.le_refl _))
    clear b5
    go_wp2_with fail
    go_ret
    exact ⟨rfl, B5.out⟩
  · have q0 := HQ0.out
    go_wp2_with fail
    refine H3.out.mono ?_
    rintro e w3 ⟨b3, ⟨hA2, _⟩ | ⟨_, _, rfl⟩ | ⟨_, hU2, _⟩⟩
    · exact absurd hA hA2
    rotate_left
    · exact absurd hU2 hU
    have H4 := hid_of (HS.out w3 b3)
    have B3 := hid_of (Base.bel B2.out b3 (Nat.le_refl _))
    clear b3 H3
    go_wp2_with fail
    refine H4.out.mono ?_
    rintro e w4 hw4
    obtain ⟨rfl, b4⟩ := hw4
    have B4 := hid_of (Base.bel B3.out b4 (Nat.le_refl _))
    have H5 := hid_of (sure_call w4 (HH.out.later B4.out))
    clear b4 H4
    go_wp2_with fail
    refine H5.out.mono ?_
    rintro e w5 hw5
    obtain ⟨rfl, b5⟩ := hw5
    have B5 := hid_of (Base.bel B4.out b5 (Nat.le_refl _))
    clear b5
    go_wp2_with fail
    go_ret
    exact ⟨rfl, B5.out⟩
  · have qP := HQ.out b
    have HL := hid_of (srtL_len l)
    have R2 := hid_of rk
    clear rk
    unfold ptr
    go_wp2_with fail
    refine H3.out.mono ?_
    rintro e w3 ⟨b3, ⟨hA2, _⟩ | ⟨_, hU2, _⟩ | ⟨_, _, vm, rfl, om⟩⟩
    · exact absurd hA hA2
    · exact absurd hU hU2
    obtain ⟨am, cm, hvm, _, _⟩ := id (fs_row om)
    subst hvm
    have H4 := hid_of (HS.out w3 b3)
    have B3 := hid_of (Base.bel B2.out b3 (Nat.le_refl _))
    have R3 := hid_of (R2.out.below b3)
    have OMm := hid_of om
    clear b3 H3 om R2
    go_wp2_with fail
    refine H4.out.mono ?_
    rintro e w4 hw4
    obtain ⟨rfl, b4⟩ := hw4
    have B4 := hid_of (Base.bel B3.out b4 (Nat.le_refl _))
    have R4 := hid_of (R3.out.below b4)
    have H5 := hid_of (len_call R4.out)
    have OM4 := hid_of (row_below OMm.out b4)
    unfold ptr at H5
    clear b4 H4 R3 OMm
    go_wp2_with fail
    refine H5.out.mono ?_
    rintro e w5 hw5
    obtain ⟨rfl, hww⟩ := hw5
    rw [hww]
    clear hww w5 H5
    have H6 := hid_of (list_call R4.out (by rw [HL.out]; exact hn))
    unfold ptr at H6
    go_wp2_with fail
    refine H6.out.mono ?_
    rintro e w6 ⟨v6, rfl, o6, b6⟩
    have H7 := hid_of (same_call v6 _ (srtL l) (srtL l) w6 (fs_row o6) ((fs_row OM4.out).below b6) (by rw [HL.out]; exact hn) (by rw [HL.out]; exact hn))
    rw [decide_eq_true rfl] at H7
    have B6 := hid_of (Base.bel B4.out b6 (Nat.le_refl _))
    clear o6 b6 H6 R4
    go_wp2_with fail
    refine H7.out.mono ?_
    rintro e w7 hw7
    obtain ⟨rfl, b7⟩ := hw7
    have B7 := hid_of (Base.bel B6.out b7 (Nat.le_refl _))
    have H8 := hid_of (sure_call w7 (HH.out.later B7.out))
    clear b7 H7
    go_wp2_with fail
    refine H8.out.mono ?_
    rintro e w8 hw8
    obtain ⟨rfl, b8⟩ := hw8
    have B8 := hid_of (Base.bel B7.out b8 (Nat.le_refl _))
    clear b8
    go_wp2_with fail
    go_ret
    exact ⟨rfl, B8.out⟩
end Go.Proofs.YtighoelipihifaaGreatDoor.LawOf
