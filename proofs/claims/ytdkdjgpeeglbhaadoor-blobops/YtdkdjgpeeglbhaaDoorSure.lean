/- What every law asks besides: some calls whose answers are known. -/
import Derived.Test.YtdkdjgpeeglbhaaDoorSplice
import Derived.Test.YtdkdjgpeeglbhaaDoorOp3
import Derived.Test.YtdkdjgpeeglbhaaDoorIncr
namespace Go.Proofs.YtdkdjgpeeglbhaaDoor.Sure
open Go.RowKit
open Go.Proofs.YtdkdjgpeeglbhaaDoor.BlobMath
open Go.Proofs.YtdkdjgpeeglbhaaDoor.Span
open Go.Proofs.YtdkdjgpeeglbhaaDoor.Bits
open Go.Proofs.YtdkdjgpeeglbhaaDoor.Reads
open Go.Proofs.YtdkdjgpeeglbhaaDoor.Mem
open Go.Proofs.YtdkdjgpeeglbhaaDoor.Parse
set_option linter.unusedVariables false
set_option linter.unusedSimpArgs false

theorem c1 (w : World) : Calls Tryd.prog 12 #[.string ⟨#[104, 101, 108, 108, 111]⟩, .int .i64 1, .string ⟨#[69, 89]⟩] w fun e w' => e = .returned (.tuple #[.string ⟨#[104, 69, 89, 108, 111]⟩, .int .i64 0]) ∧ Below w.heap.size w w' :=
  Splice.splice_ok ⟨#[104, 101, 108, 108, 111]⟩ ⟨#[69, 89]⟩ 1 w (by decide) (Splice.not_nil (by decide)) (by decide) (by decide)
theorem c2 (w : World) : Calls Tryd.prog 16 #[.string ⟨#[]⟩, .int .i64 7, .int .i64 1] w fun e w' => e = .returned (.tuple #[.string ⟨#[1]⟩, .int .i64 0, .int .i64 0]) ∧ Below w.heap.size w w' :=
  Splice.setbit_yes ⟨#[]⟩ 7 1 w (by decide) (by decide) (by decide)
theorem c3 (w : World) (b : Nat) (h : b < w.heap.size) (hc : w.cell? ⟨b, 0, none⟩ = some (.string ⟨#[15]⟩)) : Calls Tryd.prog 22 #[.int .i64 4, .slice (some ⟨b, 0, none⟩) 1 1] w fun e w' => e = .returned (.tuple #[.string ⟨#[240]⟩, .int .i64 0]) ∧ Below w.heap.size w w' :=
  Opp.op_4 b 0 1 [⟨#[15]⟩] w ⟨h, fun i hi => by
    have : i = 0 := by simpa using hi
    subst this; exact hc⟩ (fun s hs => by simp at hs; subst hs; decide) (by decide) (by decide) (by decide) (by decide)
theorem told5 : Incr.Told [53] (-7) ⟨#[45, 50]⟩ (-2) 0 := by
  refine .inl ⟨5, ?_, by unfold TextMath.InI; omega, ?_, rfl, rfl⟩
  · refine (TextMath.text_iff _ _).2 ⟨⟨by omega, by omega⟩, ?_⟩
    unfold Lib.itoa
    rw [if_neg (by omega)]
    show Lib.decDigits 5 = [53]
    rw [TextMath.dec_small (by omega)]
    rfl
  · have : Lib.itoa (5 + -7) = [45, 50] := by
      show Lib.itoa (-2) = _
      unfold Lib.itoa
      rw [if_pos (by omega)]
      show 45 :: Lib.decDigits 2 = _
      rw [TextMath.dec_small (by omega)]
      rfl
    rw [this]
theorem c4 (w : World) (h : Has w) : Calls Tryd.prog 24 #[.string ⟨#[53]⟩, .int .i64 (-7)] w fun e w' => e = .returned (.tuple #[.string ⟨#[45, 50]⟩, .int .i64 (-2), .int .i64 0]) ∧ Below w.heap.size w w' :=
  Incr.incr_call ⟨#[53]⟩ (-7) ⟨#[45, 50]⟩ (-2) 0 w (by decide) (by unfold TextMath.InI; omega) told5 h
theorem f97 : FirstIs (⟨#[97]⟩ : ByteArray).data.toList 1 (8 * spA (⟨#[97]⟩ : ByteArray).size 0 (-1)) (8 * spB (⟨#[97]⟩ : ByteArray).size 0 (-1)) 1 := by
  refine .inr ⟨1, rfl, by decide, by decide, by decide, fun i _ hi => ?_⟩
  obtain rfl : i = 0 := by omega
  decide
theorem c5 (w : World) : Calls Tryd.prog 18 #[.string ⟨#[97]⟩, .int .i64 1, .int .i64 0, .int .i64 (-1)] w fun e w' => e = .returned (.tuple #[.int .i64 1, .int .i64 0]) ∧ w' = w :=
  first_1 ⟨#[97]⟩ 0 (-1) w 1 (by decide) (by unfold InI; omega) (by unfold InI; omega) f97
theorem c6 (w : World) : Calls Tryd.prog 9 #[.string ⟨#[104, 101, 108, 108, 111]⟩, .int .i64 (-3), .int .i64 (-1)] w fun e w' => e = .returned (.string ⟨#[108, 108, 111]⟩) ∧ Below w.heap.size w w' := by
  have := range_call ⟨#[104, 101, 108, 108, 111]⟩ (-3) (-1) w (by decide) (by unfold InI; omega) (by unfold InI; omega)
  rw [show (⟨#[104, 101, 108, 108, 111]⟩ : ByteArray).extract (spA (⟨#[104, 101, 108, 108, 111]⟩ : ByteArray).size (-3) (-1)) (spB (⟨#[104, 101, 108, 108, 111]⟩ : ByteArray).size (-3) (-1)) = ⟨#[108, 108, 111]⟩ by decide +kernel] at this
  exact this
theorem c7 (w : World) : Calls Tryd.prog 20 #[.string ⟨#[97, 98]⟩, .int .i64 0, .int .i64 (-1)] w fun e w' => e = .returned (.int .i64 6) ∧ w' = w :=
  count_call ⟨#[97, 98]⟩ 0 (-1) w (by decide) (by unfold InI; omega) (by unfold InI; omega)
set_option maxHeartbeats 4000000 in
set_option maxRecDepth 100000 in
theorem sure_call (w : World) (h : Has w) : Calls Tryd.prog 11 #[] w fun e w' => e = .returned (.bool true) ∧ Below w.heap.size w w' := by
  have HH := hid_of h
  clear h
  go_enter Tryd.func11, Tryd.ntmps11
  go_wp2_with fail
  refine (c1 _).mono ?_
  rintro e w1 ⟨rfl, b1⟩
  go_wp2_with fail
  refine (c2 _).mono ?_
  rintro e w2 ⟨rfl, b2⟩
  go_wp2_with fail
  refine (c3 _ w2.heap.size (by simp) (Lib.cell_of_heap (heap_alloc_new w2 _) 0)).mono ?_
  rintro e w3 ⟨rfl, b3⟩
  have B3 := hid_of (bel (bel (bel b1 b2 (Nat.le_refl _)) ((Below.refl w2.heap.size w2).alloc (Nat.le_refl _) _) (Nat.le_refl _)) b3 (Nat.le_refl _))
  clear b1 b2 b3
  go_wp2_with fail
  refine (c4 _ (HH.out.later B3.out)).mono ?_
  rintro e w4 ⟨rfl, b4⟩
  have B4 := hid_of (bel B3.out b4 (Nat.le_refl _))
  clear b4 B3
  go_wp2_with fail
  refine (c5 _).mono ?_
  rintro e w5 ⟨rfl, rfl⟩
  go_wp2_with fail
  refine (c6 _).mono ?_
  rintro e w6 ⟨rfl, b6⟩
  have B6 := hid_of (bel B4.out b6 (Nat.le_refl _))
  clear b6 B4
  go_wp2_with fail
  refine (c7 _).mono ?_
  rintro e w7 ⟨rfl, rfl⟩
  go_wp2
  go_ret
  exact ⟨rfl, B6.out⟩
end Go.Proofs.YtdkdjgpeeglbhaaDoor.Sure
