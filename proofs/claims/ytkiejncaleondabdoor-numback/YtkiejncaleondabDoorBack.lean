/- NumBack's roads, walked. -/
import Derived.Test.YtkiejncaleondabDoorParse
import Derived.Test.YtkiejncaleondabDoorLaidErr
import Derived.Test.YtkiejncaleondabDoorFix
import Derived.Test.YtkiejncaleondabDoorUnfix
namespace Go.Proofs.YtkiejncaleondabDoor.Back
open Go.RowKit
open Go.Lib (decDigits itoa)
open Go.Proofs.YtkiejncaleondabDoor.TextMath
open Go.Proofs.YtkiejncaleondabDoor.Print
open Go.Proofs.YtkiejncaleondabDoor.Parse
open Go.Proofs.YtkiejncaleondabDoor.BytesMath (leN leN_append leN_lt)
open Go.Proofs.YtkiejncaleondabDoor.FixMath
set_option linter.unusedVariables false

theorem leN_leB (U n : Nat) : leN (leB (U : Int) n) = U % 2 ^ (8 * n) := by
  induction n with
  | zero => simp [leB, leN]; omega
  | succ n ih =>
    have hb := bt_bd (U : Int) n
    have e : (bt (U : Int) n).toNat = U / 2 ^ (8 * n) % 256 := by
      unfold bt
      have : ((U : Int) / 2 ^ (8 * n)) = ((U / 2 ^ (8 * n) : Nat) : Int) := by simp
      rw [this]; omega
    have e1 : leN [UInt8.ofNat (bt (U : Int) n).toNat] = U / 2 ^ (8 * n) % 256 := by
      simp only [leN, UInt8.toNat_ofNat', e]; omega
    rw [leB_succ, leN_append, leB_len, ih, e1, BytesMath.pow256, show 8 * (n + 1) = 8 * n + 8 from by omega, Nat.pow_add, Nat.mod_mul]
theorem back {u : Int} (n : Nat) (h0 : 0 ≤ u) (hf : (u / 2 ^ (8 * n) != 0) = false) : ((leN (leB u n) : Nat) : Int) = u := by
  obtain ⟨U, rfl⟩ := Int.eq_ofNat_of_zero_le h0
  rw [leN_leB]
  have h1 : ((U : Int) / 2 ^ (8 * n)) = 0 := by simpa using hf
  have h2 : U / 2 ^ (8 * n) = 0 := by
    have : ((U : Int) / 2 ^ (8 * n)) = ((U / 2 ^ (8 * n) : Nat) : Int) := by simp
    omega
  have hp : 0 < 2 ^ (8 * n) := Nat.pow_pos (by omega)
  rw [Nat.mod_eq_of_lt ((Nat.div_eq_zero_iff_lt hp).1 h2)]
theorem full {u : Int} (h0 : 0 ≤ u) (h1 : u ≤ 18446744073709551615) : (u / 2 ^ (8 * 8) != 0) = false := by
  have : ((2 : Int) ^ (8 * 8)) = 18446744073709551616 := by decide
  rw [this]; simp; omega
theorem itoa_len {n : Int} (h : InI n) : (itoa n).length ≤ 20 := by
  obtain ⟨h1, h2⟩ := h
  unfold itoa
  by_cases hn : n < 0
  · rw [if_pos hn]
    have := canon_len (canon_dec n.natAbs) (by rw [val_dec]; omega)
    simp; omega
  · rw [if_neg hn]
    have := canon_len (canon_dec n.toNat) (by rw [val_dec]; omega)
    omega
theorem unfix_back (u : Int) (n : Nat) (w : World) (h0 : 0 ≤ u) (h1 : 1 ≤ n) (h8 : n ≤ 8) (hf : (u / 2 ^ (8 * n) != 0) = false) :
    Calls Tryd.prog 7 #[.string ⟨(leB u n).toArray⟩] w fun e w' => e = .returned (.tuple #[.int .u64 u, .int .i64 0]) ∧ w' = w := by
  have h := Unfix.unfix_ok ⟨(leB u n).toArray⟩ w (by rw [size_of, leB_len]; exact h1) (by rw [size_of, leB_len]; exact h8)
  have e : ((leN (⟨(leB u n).toArray⟩ : ByteArray).data.toList : Nat) : Int) = u := back n h0 hf
  rw [e] at h
  exact h
theorem parse_itoa (n : Int) (w : World) (h : InI n) (hh : Has w) :
    Calls Tryd.prog 4 #[.string ⟨(itoa n).toArray⟩] w fun x w' => x = .returned (.tuple #[.int .i64 n, .int .i64 0]) ∧ Below w.heap.size w w' :=
  parse_any ⟨(itoa n).toArray⟩ w n 0 (by have := itoa_len h; rw [size_of]; omega) (.inl ⟨(text_iff _ _).2 ⟨h, rfl⟩, rfl⟩) hh

set_option maxHeartbeats 2000000 in
theorem walk_text (n : Int) (s : ByteArray) (u k : Int) (w : World) (hn : InI n) (hs : s.size ≤ 140737488351232) (hu0 : 0 ≤ u) (hu : u ≤ 18446744073709551615) (hk : textB k s.data.toList = true) (hh : Has w) :
    Calls Tryd.prog 3 #[.int .i64 n, .string s, .int .u64 u] w fun e w' => e = .returned (.bool true) ∧ Below w.heap.size w w' := by
  have HN := hid_of hn
  have HH := hid_of hh
  have HK := hid_of hk
  have hki := (text_iff _ _).1 hk
  have HI := hid_of hki.1
  have hcmp : (itoa k == s.toList) = true := by rw [Lib.toList_data, beq_iff_eq]; exact hki.2
  clear hn hh hk hki
  go_enter Tryd.func3, Tryd.ntmps3
  go_wp2_with fail
  refine (print_any n _ HN.out HH.out.tab).mono ?_
  rintro x w1 ⟨rfl, b1⟩
  go_wp2_with fail
  refine (parse_itoa n _ HN.out (HH.out.later b1)).mono ?_
  rintro x w2 ⟨rfl, b2⟩
  have c2 := bel b1 b2 (Nat.le_refl _)
  clear b1 b2
  go_wp2_with fail
  refine (parse_any s _ k 0 hs (.inl ⟨HK.out, rfl⟩) (HH.out.later c2)).mono ?_
  rintro x w3 ⟨rfl, b3⟩
  have c3 := bel c2 b3 (Nat.le_refl _)
  clear c2 b3
  go_wp2_with fail
  refine (print_any k _ HI.out (HH.out.later c3).tab).mono ?_
  rintro x w4 ⟨rfl, b4⟩
  have c4 := bel c3 b4 (Nat.le_refl _)
  clear c3 b4
  go_wp2
  go_loopw [11] (fun x wr => ∃ j : Nat, 1 ≤ j ∧ j ≤ 9 ∧ x = .int .i64 j ∧ Below w.heap.size w wr) (fun x _ => 9 - (intOf x).toNat)
  case atStart => exact ⟨1, Nat.le_refl _, by omega, rfl, c4⟩
  case round =>
    obtain ⟨j, j1, j9, rfl, hb⟩ := hrel
    by_cases hlt : j ≤ 8
    · cases hf : (u / 2 ^ (8 * j) != 0)
      · have hlen : (leB u j).length = j := leB_len u j
        have hq : (u / 2 ^ (8 * j) == 0) = true := by simpa using hf
        cases h8 : ((j : Int) == 8)
        all_goals
          go_wp2_with fail
          refine (Fix.fix_ok u j _ hu0 hu j1 hlt hf).mono ?_
          rintro x w5 ⟨rfl, b5⟩
          have c5 := bel hb b5 (Nat.le_refl _)
          clear b5
          go_wp2_with fail
          refine (unfix_back u j _ hu0 j1 hlt hf).mono ?_
          rintro x w6 ⟨rfl, rfl⟩
          go_wp2
          go_roundw
          case rel => exact ⟨j + 1, by omega, by omega, by go_num, c5⟩
          case measure => simp [intOf]; omega
      · have h8 : ((j : Int) == 8) = false := by
          rw [beq_eq_false_iff_ne]
          intro e
          have : j = 8 := by omega
          subst this
          rw [full hu0 hu] at hf; cases hf
        have hq : (u / 2 ^ (8 * j) == 0) = false := by simpa using hf
        go_wp2_with fail
        refine (Fix.fix_over u j _ hu0 hu j1 hlt hf).mono ?_
        rintro x w5 ⟨rfl, b5⟩
        have c5 := bel hb b5 (Nat.le_refl _)
        clear b5
        go_wp2
        go_roundw
        case rel => exact ⟨j + 1, by omega, by omega, by go_num, c5⟩
        case measure => simp [intOf]; omega
    · go_wp2
      go_ret
      exact ⟨rfl, hb⟩
set_option maxHeartbeats 2000000 in
theorem walk_none (n : Int) (s : ByteArray) (u : Int) (w : World) (hn : InI n) (hs : s.size ≤ 140737488351232) (hu0 : 0 ≤ u) (hu : u ≤ 18446744073709551615) (hk : ∀ m, textB m s.data.toList = false) (hh : Has w) :
    Calls Tryd.prog 3 #[.int .i64 n, .string s, .int .u64 u] w fun e w' => e = .returned (.bool true) ∧ Below w.heap.size w w' := by
  have HN := hid_of hn
  have HH := hid_of hh
  have HK := hid_of hk
  clear hn hh hk
  go_enter Tryd.func3, Tryd.ntmps3
  go_wp2_with fail
  refine (print_any n _ HN.out HH.out.tab).mono ?_
  rintro x w1 ⟨rfl, b1⟩
  go_wp2_with fail
  refine (parse_itoa n _ HN.out (HH.out.later b1)).mono ?_
  rintro x w2 ⟨rfl, b2⟩
  have c2 := bel b1 b2 (Nat.le_refl _)
  clear b1 b2
  go_wp2_with fail
  refine (parse_any s _ 0 10 hs (.inr ⟨HK.out, rfl, rfl⟩) (HH.out.later c2)).mono ?_
  rintro x w3 ⟨rfl, b3⟩
  have c3 := bel c2 b3 (Nat.le_refl _)
  clear c2 b3
  go_wp2
  go_loopw [11] (fun x wr => ∃ j : Nat, 1 ≤ j ∧ j ≤ 9 ∧ x = .int .i64 j ∧ Below w.heap.size w wr) (fun x _ => 9 - (intOf x).toNat)
  case atStart => exact ⟨1, Nat.le_refl _, by omega, rfl, c3⟩
  case round =>
    obtain ⟨j, j1, j9, rfl, hb⟩ := hrel
    by_cases hlt : j ≤ 8
    · cases hf : (u / 2 ^ (8 * j) != 0)
      · have hlen : (leB u j).length = j := leB_len u j
        have hq : (u / 2 ^ (8 * j) == 0) = true := by simpa using hf
        cases h8 : ((j : Int) == 8)
        all_goals
          go_wp2_with fail
          refine (Fix.fix_ok u j _ hu0 hu j1 hlt hf).mono ?_
          rintro x w5 ⟨rfl, b5⟩
          have c5 := bel hb b5 (Nat.le_refl _)
          clear b5
          go_wp2_with fail
          refine (unfix_back u j _ hu0 j1 hlt hf).mono ?_
          rintro x w6 ⟨rfl, rfl⟩
          go_wp2
          go_roundw
          case rel => exact ⟨j + 1, by omega, by omega, by go_num, c5⟩
          case measure => simp [intOf]; omega
      · have h8 : ((j : Int) == 8) = false := by
          rw [beq_eq_false_iff_ne]
          intro e
          have : j = 8 := by omega
          subst this
          rw [full hu0 hu] at hf; cases hf
        have hq : (u / 2 ^ (8 * j) == 0) = false := by simpa using hf
        go_wp2_with fail
        refine (Fix.fix_over u j _ hu0 hu j1 hlt hf).mono ?_
        rintro x w5 ⟨rfl, b5⟩
        have c5 := bel hb b5 (Nat.le_refl _)
        clear b5
        go_wp2
        go_roundw
        case rel => exact ⟨j + 1, by omega, by omega, by go_num, c5⟩
        case measure => simp [intOf]; omega
    · go_wp2
      go_ret
      exact ⟨rfl, hb⟩
end Go.Proofs.YtkiejncaleondabDoor.Back
