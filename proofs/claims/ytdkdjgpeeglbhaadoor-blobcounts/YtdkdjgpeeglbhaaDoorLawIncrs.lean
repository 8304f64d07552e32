/- The laws BlobIncrs and BlobCounts, walked. -/
import Derived.Test.YtdkdjgpeeglbhaaDoorSure
namespace Go.Proofs.YtdkdjgpeeglbhaaDoor.LawIncrs
open Go.RowKit
open Go.Proofs.YtdkdjgpeeglbhaaDoor.BlobMath
open Go.Proofs.YtdkdjgpeeglbhaaDoor.Span
open Go.Proofs.YtdkdjgpeeglbhaaDoor.Reads
open Go.Proofs.YtdkdjgpeeglbhaaDoor.Mem
open Go.Proofs.YtdkdjgpeeglbhaaDoor.Incr
open Go.Proofs.YtdkdjgpeeglbhaaDoor.Parse
set_option linter.unusedVariables false
set_option linter.unusedSimpArgs false

set_option maxHeartbeats 1000000 in
theorem walk (s : ByteArray) (d : Int) (w : World) (hs : s.size ≤ 140737488351232) (hd : InI d) (hh : Has w) :
    Calls Tryd.prog 8 #[.string s, .int .i64 d] w fun e w' => e = .returned (.bool true) ∧ Below w.heap.size w w' := by
  obtain ⟨r, n, e, ht⟩ := told_ex s.data.toList d
  have H1 := hid_of (fun w h => incr_call s d r n e w hs hd ht h)
  have H2 := hid_of (fun w => rincr_call s d r n e w hs hd ht)
  have HH := hid_of hh
  clear ht hh hd
  unfold T3 at H1 H2
  go_enter Tryd.func8, Tryd.ntmps8
  go_wp2_with fail
  refine (H1.out _ HH.out).mono ?_
  rintro e w1 ⟨rfl, b1⟩
  go_wp2_with fail
  refine (H2.out _).mono ?_
  rintro e w2 ⟨rfl, b2⟩
  have b12 := bel b1 b2 (Nat.le_refl _)
  go_wp2_with fail
  refine (Sure.sure_call _ (HH.out.later b12)).mono ?_
  rintro e w3 ⟨rfl, b3⟩
  go_wp2
  go_ret
  exact ⟨rfl, bel b12 b3 (Nat.le_refl _)⟩
theorem firsts (s : ByteArray) (v f t : Int) (hs : s.size ≤ 140737488351232) (hf : InI f) (ht : InI t) :
    ∃ (r e : Int), (∀ w, Calls Tryd.prog 18 #[.string s, .int .i64 v, .int .i64 f, .int .i64 t] w fun x w' => x = .returned (.tuple #[.int .i64 r, .int .i64 e]) ∧ w' = w) ∧
      (∀ w, Calls Tryd.prog 19 #[.string s, .int .i64 v, .int .i64 f, .int .i64 t] w fun x w' => x = .returned (.tuple #[.int .i64 r, .int .i64 e]) ∧ w' = w) := by
  by_cases h0 : v = 0
  · subst h0
    obtain ⟨r, hr⟩ := FirstIs.ex s.data.toList 0 (8 * spA s.size f t) (8 * spB s.size f t)
    exact ⟨r, 0, fun w => first_0 s f t w r hs hf ht hr, fun w => rfirst_0 s f t w r hs hf ht hr⟩
  · by_cases h1 : v = 1
    · subst h1
      obtain ⟨r, hr⟩ := FirstIs.ex s.data.toList 1 (8 * spA s.size f t) (8 * spB s.size f t)
      exact ⟨r, 0, fun w => first_1 s f t w r hs hf ht hr, fun w => rfirst_1 s f t w r hs hf ht hr⟩
    · have v0 : (v == 0) = false := by rw [beq_eq_false_iff_ne]; omega
      have v1 : (v == 1) = false := by rw [beq_eq_false_iff_ne]; omega
      exact ⟨_, _, fun w => first_no s v f t w v0 v1, fun w => rfirst_no s v f t w v0 v1⟩
end Go.Proofs.YtdkdjgpeeglbhaaDoor.LawIncrs
