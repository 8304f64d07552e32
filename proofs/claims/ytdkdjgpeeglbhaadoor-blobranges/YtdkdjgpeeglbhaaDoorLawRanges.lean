/- The law BlobRanges, walked. -/
import Derived.Test.YtdkdjgpeeglbhaaDoorSure
namespace Go.Proofs.YtdkdjgpeeglbhaaDoor.LawRanges
open Go.RowKit
open Go.Proofs.YtdkdjgpeeglbhaaDoor.BlobMath
open Go.Proofs.YtdkdjgpeeglbhaaDoor.Span
open Go.Proofs.YtdkdjgpeeglbhaaDoor.Reads
open Go.Proofs.YtdkdjgpeeglbhaaDoor.Mem
open Go.Proofs.YtdkdjgpeeglbhaaDoor.Parse
set_option linter.unusedVariables false
set_option linter.unusedSimpArgs false

set_option maxHeartbeats 1000000 in
theorem walk (s : ByteArray) (f t : Int) (w : World) (hs : s.size ≤ 140737488351232) (hf : InI f) (ht : InI t) (hh : Has w) :
    Calls Tryd.prog 3 #[.string s, .int .i64 f, .int .i64 t] w fun e w' => e = .returned (.bool true) ∧ Below w.heap.size w w' := by
  have H1 := hid_of (fun w => range_call s f t w hs hf ht)
  have H2 := hid_of (fun w => rrange_call s f t w hs hf ht)
  have HH := hid_of hh
  generalize s.extract (spA s.size f t) (spB s.size f t) = X at *
  clear hf ht hh
  go_enter Tryd.func3, Tryd.ntmps3
  go_wp2_with fail
  refine (H1.out _).mono ?_
  rintro e w1 ⟨rfl, b1⟩
  go_wp2_with fail
  refine (H2.out _).mono ?_
  rintro e w2 ⟨rfl, rfl⟩
  go_wp2_with fail
  refine (Sure.sure_call _ (HH.out.later b1)).mono ?_
  rintro e w3 ⟨rfl, b3⟩
  go_wp2
  go_ret
  exact ⟨rfl, bel b1 b3 (Nat.le_refl _)⟩
end Go.Proofs.YtdkdjgpeeglbhaaDoor.LawRanges
