/- The law BlobSet, walked. -/
import Derived.Test.YtdkdjgpeeglbhabDoorZeros
namespace Go.Proofs.YtdkdjgpeeglbhabDoor.LawSet
open Go.RowKit
open Go.Proofs.YtdkdjgpeeglbhabDoor.BlobMath
open Go.Proofs.YtdkdjgpeeglbhabDoor.Span
open Go.Proofs.YtdkdjgpeeglbhabDoor.Bits
open Go.Proofs.YtdkdjgpeeglbhabDoor.Reads
open Go.Proofs.YtdkdjgpeeglbhabDoor.Mem
open Go.Proofs.YtdkdjgpeeglbhabDoor.Splice
open Go.Proofs.YtdkdjgpeeglbhabDoor.Opp
open Go.Proofs.YtdkdjgpeeglbhabDoor.Zeros
open Go.Proofs.YtdkdjgpeeglbhabDoor.Parse
set_option linter.unusedVariables false
set_option linter.unusedSimpArgs false

set_option maxHeartbeats 4000000 in
set_option maxRecDepth 100000 in
theorem walk (s : ByteArray) (a b : Int) (w : World) (hs : s.size ≤ 140737488351232) (ha : InI a) (hb : InI b) (hh : Has w) :
    Calls Tryd.prog 3 #[.string s, .int .i64 a, .int .i64 b] w fun e w' => e = .returned (.bool true) ∧ Below w.heap.size w w' := by
  obtain ⟨p, hp⟩ : ∃ p : Nat, max 0 (min a 65536) = (p : Int) := ⟨(max 0 (min a 65536)).toNat, by omega⟩
  obtain ⟨q, hq⟩ : ∃ q : Nat, max 0 (min b 65536) = (q : Int) := ⟨(max 0 (min b 65536)).toNat, by omega⟩
  have hp1 : p ≤ 65536 := by omega
  have hq1 : q ≤ 65536 := by omega
  have HH := hid_of hh
  obtain ⟨o, HO⟩ : ∃ o, Hid (o = bitAt (txt s) p) := ⟨_, hid_of rfl⟩
  have ho : o < 2 := by rw [HO.out]; exact bitAt_lt _ _
  obtain ⟨z, HZ⟩ : ∃ z, Hid (z = bitAt (txt s) q) := ⟨_, hid_of rfl⟩
  have hz : z < 2 := by rw [HZ.out]; exact bitAt_lt _ _
  have HS := hid_of (fun v (hv : v < 2) w => setbit_yes s p v w hs (by omega) hv)
  rw [← HO.out] at HS
  have HBq := hid_of (fun w => bit_yes s q w hs (by omega))
  rw [show bitAt s.data.toList q = z from HZ.out.symm] at HBq
  clear hh ha hb
  go_enter Tryd.func3, Tryd.ntmps3
  go_wp2_with fail
  go_loopw [7] (fun x wr => ∃ v : Nat, v ≤ 2 ∧ x = .int .i64 (v : Int) ∧ Hid (Below w.heap.size w wr)) (fun x _ => 2 - (intOf x).toNat)
  case atStart => exact ⟨0, by omega, rfl, Below.refl _ _⟩
  case round =>
    obtain ⟨v, hv, rfl, HB⟩ := hrel
    by_cases hv2 : v < 2
    · obtain ⟨T, HT⟩ : ∃ T, Hid (T = mkB (setS (txt s) p v)) := ⟨_, hid_of rfl⟩
      have hTs : T.size ≤ 140737488351232 := by rw [HT.out, mkB_size, setS_len, txt_len]; omega
      have HTt := hid_of (show txt T = setS (txt s) p v by rw [HT.out, txt_mk])
      have H1 := hid_of (HS.out v hv2)
      rw [← HT.out] at H1
      have H2 := hid_of (fun w => bit_yes T p w hTs (by omega))
      rw [show bitAt T.data.toList p = v by show bitAt (txt T) p = v; rw [HTt.out, bit_set _ _ _ _ hv2, if_pos rfl]] at H2
      have H3 := hid_of (fun w => bit_yes T q w hTs (by omega))
      obtain ⟨y, HY⟩ : ∃ y, Hid (y = bitAt (txt T) q) := ⟨_, hid_of rfl⟩
      rw [show bitAt T.data.toList q = y from HY.out.symm] at H3
      have HYZ := hid_of (show q ≠ p → y = z by intro h; rw [HY.out, HTt.out, bit_set _ _ _ _ hv2, if_neg h, HZ.out])
      have H4 := hid_of (fun w => setbit_yes T p o w hTs (by omega) ho)
      rw [show bitAt (txt T) p = v by rw [HTt.out, bit_set _ _ _ _ hv2, if_pos rfl]] at H4
      obtain ⟨K, HK⟩ : ∃ K, Hid (K = mkB (setS (txt T) p o)) := ⟨_, hid_of rfl⟩
      rw [← HK.out] at H4
      have HKt := hid_of (show txt K = pad (txt s) (p / 8 + 1) by rw [HK.out, txt_mk, HTt.out, HO.out, back_eq _ _ _ hv2])
      have hKs : K.size ≤ 140737488351232 := by rw [← txt_len, HKt.out, pad_len, txt_len]; omega
      have H5 := hid_of (fun w => zeros_yes K s (p / 8 + 1) w hKs HKt.out)
      have n0 : ((v : Int) != (v : Int)) = false := by simp
      rcases Nat.decEq q p with hne | heq
      · have n1 : ((q : Int) != (p : Int)) = true := by rw [bne_iff_ne]; omega
        have hyz := HYZ.out hne
        subst hyz
        clear HYZ hne
        go_wp2_with fail
        refine (H1.out _).mono ?_
        rintro e w1 ⟨rfl, b1⟩
        go_wp2_with fail
        refine (H2.out _).mono ?_
        rintro e w2 ⟨rfl, b2⟩
        go_wp2_with fail
        refine (H3.out _).mono ?_
        rintro e w3 ⟨rfl, b3⟩
        go_wp2_with fail
        refine (HBq.out _).mono ?_
        rintro e w4 ⟨rfl, b4⟩
        go_wp2_with fail
        refine (H4.out _).mono ?_
        rintro e w5 ⟨rfl, b5⟩
        have B5 := hid_of (bel (bel (bel (bel (bel HB.out b1 (Nat.le_refl _)) b2 (Nat.le_refl _)) b3 (Nat.le_refl _)) b4 (Nat.le_refl _)) b5 (Nat.le_refl _))
        clear b1 b2 b3 b4 b5
        go_wp2_with fail
        refine (H5.out _).mono ?_
        rintro e w6 ⟨rfl, rfl⟩
        go_wp2
        exact ⟨⟨v + 1, by omega, by go_num, B5⟩, by simp [intOf]; omega⟩
      · have n1 : ((q : Int) != (p : Int)) = false := by rw [heq]; simp
        clear HYZ heq
        go_wp2_with fail
        refine (H1.out _).mono ?_
        rintro e w1 ⟨rfl, b1⟩
        go_wp2_with fail
        refine (H2.out _).mono ?_
        rintro e w2 ⟨rfl, b2⟩
        go_wp2_with fail
        refine (H3.out _).mono ?_
        rintro e w3 ⟨rfl, b3⟩
        go_wp2_with fail
        refine (HBq.out _).mono ?_
        rintro e w4 ⟨rfl, b4⟩
        go_wp2_with fail
        refine (H4.out _).mono ?_
        rintro e w5 ⟨rfl, b5⟩
        have B5 := hid_of (bel (bel (bel (bel (bel HB.out b1 (Nat.le_refl _)) b2 (Nat.le_refl _)) b3 (Nat.le_refl _)) b4 (Nat.le_refl _)) b5 (Nat.le_refl _))
        clear b1 b2 b3 b4 b5
        go_wp2_with fail
        refine (H5.out _).mono ?_
        rintro e w6 ⟨rfl, rfl⟩
        go_wp2
        exact ⟨⟨v + 1, by omega, by go_num, B5⟩, by simp [intOf]; omega⟩
    · have gi : (1 : Int) < (v : Int) := by omega
      go_wp2_with fail
      refine (Sure.sure_call _ (HH.out.later HB.out)).mono ?_
      rintro e w7 ⟨rfl, b7⟩
      go_wp2
      go_ret
      exact ⟨rfl, bel HB.out b7 (Nat.le_refl _)⟩
end Go.Proofs.YtdkdjgpeeglbhabDoor.LawSet
