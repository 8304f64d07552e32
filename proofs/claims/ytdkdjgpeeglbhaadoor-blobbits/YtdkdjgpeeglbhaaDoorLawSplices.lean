/- The laws BlobSplices and BlobBits, walked. -/
import Derived.Test.YtdkdjgpeeglbhaaDoorSure
import Derived.Test.YtdkdjgpeeglbhaaDoorRefSplice
namespace Go.Proofs.YtdkdjgpeeglbhaaDoor.LawSplices
open Go.RowKit
open Go.Proofs.YtdkdjgpeeglbhaaDoor.BlobMath
open Go.Proofs.YtdkdjgpeeglbhaaDoor.Span
open Go.Proofs.YtdkdjgpeeglbhaaDoor.Bits
open Go.Proofs.YtdkdjgpeeglbhaaDoor.Reads
open Go.Proofs.YtdkdjgpeeglbhaaDoor.Mem
open Go.Proofs.YtdkdjgpeeglbhaaDoor.Splice
open Go.Proofs.YtdkdjgpeeglbhaaDoor.RefSplice
open Go.Proofs.YtdkdjgpeeglbhaaDoor.Parse
set_option linter.unusedVariables false
set_option linter.unusedSimpArgs false

/-- both give one text and one error -/
theorem both (s t : ByteArray) (a : Int) (hs : s.size ≤ 140737488351232) (ha : InI a) (ht : t.size ≤ 140737488351232) :
    ∃ (r : ByteArray) (e : Int), (∀ w, Calls Tryd.prog 12 #[.string s, .int .i64 a, .string t] w fun x w' => x = .returned (.tuple #[.string r, .int .i64 e]) ∧ Below w.heap.size w w') ∧
      (∀ w, Calls Tryd.prog 13 #[.string s, .int .i64 a, .string t] w fun x w' => x = .returned (.tuple #[.string r, .int .i64 e]) ∧ Below w.heap.size w w') := by
  by_cases h : a < 0
  · exact ⟨_, _, fun w => (splice_neg s t a w h).mono fun x w' ⟨h1, h2⟩ => ⟨h1, by rw [h2]; exact Below.refl _ _⟩, fun w => (rsplice_neg s t a w h).mono fun x w' ⟨h1, h2⟩ => ⟨h1, by rw [h2]; exact Below.refl _ _⟩⟩
  · by_cases h0 : t.size = 0
    · obtain rfl : t = ByteArray.empty := by
        apply ByteArray.ext
        exact Array.eq_empty_of_size_eq_zero h0
      exact ⟨_, _, fun w => splice_nil s a w hs (by omega), fun w => (rsplice_nil s a w (by omega)).mono fun x w' ⟨h1, h2⟩ => ⟨h1, by rw [h2]; exact Below.refl _ _⟩⟩
    · have hn := not_nil (t := t) (by omega)
      by_cases h1 : 1048576 - (t.size : Int) < a
      · exact ⟨_, _, fun w => (splice_long s t a w ht hn (by omega) h1).mono fun x w' ⟨h1, h2⟩ => ⟨h1, by rw [h2]; exact Below.refl _ _⟩, fun w => (rsplice_long s t a w ha ht hn (by omega) h1).mono fun x w' ⟨h1, h2⟩ => ⟨h1, by rw [h2]; exact Below.refl _ _⟩⟩
      · obtain ⟨n, rfl⟩ := Int.eq_ofNat_of_zero_le (show 0 ≤ a by omega)
        exact ⟨_, _, fun w => splice_ok s t n w hs hn (by omega) (by omega), fun w => rsplice_ok s t n w hs hn (by omega) (by omega)⟩
set_option maxHeartbeats 1000000 in
theorem walk (s : ByteArray) (a : Int) (t : ByteArray) (w : World) (hs : s.size ≤ 140737488351232) (ha : InI a) (ht : t.size ≤ 140737488351232) (hh : Has w) :
    Calls Tryd.prog 4 #[.string s, .int .i64 a, .string t] w fun e w' => e = .returned (.bool true) ∧ Below w.heap.size w w' := by
  obtain ⟨r, e, h1, h2⟩ := both s t a hs ha ht
  have H1 := hid_of h1
  have H2 := hid_of h2
  have HH := hid_of hh
  clear h1 h2 ha hh
  go_enter Tryd.func4, Tryd.ntmps4
  go_wp2_with fail
  refine (H1.out _).mono ?_
  rintro e w1 ⟨rfl, b1⟩
  go_wp2_with fail
  refine (H2.out _).mono ?_
  rintro e w2 ⟨rfl, b2⟩
  have b12 := bel b1 b2 (Nat.le_refl _)
  go_wp2_with fail
  refine (Sure.sure_call _ (HH.out.later b12)).mono ?_
  rintro e w3 ⟨rfl, b3⟩
  go_wp2
  go_ret
  exact ⟨rfl, bel b12 b3 (Nat.le_refl _)⟩
theorem bits_both (s : ByteArray) (a : Int) (hs : s.size ≤ 140737488351232) :
    ∃ (b e : Int), (∀ w, Calls Tryd.prog 14 #[.string s, .int .i64 a] w fun x w' => x = .returned (.tuple #[.int .i64 b, .int .i64 e]) ∧ Below w.heap.size w w') ∧
      (∀ w, Calls Tryd.prog 15 #[.string s, .int .i64 a] w fun x w' => x = .returned (.tuple #[.int .i64 b, .int .i64 e]) ∧ w' = w) := by
  by_cases h : inB a
  · obtain ⟨h0, h1⟩ := h
    obtain ⟨n, rfl⟩ := Int.eq_ofNat_of_zero_le h0
    exact ⟨_, _, fun w => bit_yes s n w hs (by omega), fun w => rbit_yes s n w hs (by omega)⟩
  · exact ⟨_, _, fun w => (bit_no s a w h).mono fun x w' ⟨h1, h2⟩ => ⟨h1, by rw [h2]; exact Below.refl _ _⟩, fun w => rbit_no s a w h⟩
theorem set_both (s : ByteArray) (a v : Int) (hs : s.size ≤ 140737488351232) :
    ∃ (r : ByteArray) (b e : Int), (∀ w, Calls Tryd.prog 16 #[.string s, .int .i64 a, .int .i64 v] w fun x w' => x = .returned (.tuple #[.string r, .int .i64 b, .int .i64 e]) ∧ Below w.heap.size w w') ∧
      (∀ w, Calls Tryd.prog 17 #[.string s, .int .i64 a, .int .i64 v] w fun x w' => x = .returned (.tuple #[.string r, .int .i64 b, .int .i64 e]) ∧ Below w.heap.size w w') := by
  by_cases h : inB a
  · obtain ⟨h0, h1⟩ := h
    obtain ⟨n, rfl⟩ := Int.eq_ofNat_of_zero_le h0
    by_cases hv : v = 0 ∨ v = 1
    · obtain ⟨m, rfl⟩ := Int.eq_ofNat_of_zero_le (show 0 ≤ v by omega)
      exact ⟨_, _, _, fun w => setbit_yes s n m w hs (by omega) (by omega), fun w => rsetbit_yes s n m w hs (by omega) (by omega)⟩
    · have v0 : (v == 0) = false := by rw [beq_eq_false_iff_ne]; omega
      have v1 : (v == 1) = false := by rw [beq_eq_false_iff_ne]; omega
      exact ⟨_, _, _, fun w => setbit_bad s n v w hs (by omega) v0 v1, fun w => (rsetbit_bad s n v w v0 v1).mono fun x w' ⟨h1, h2⟩ => ⟨h1, by rw [h2]; exact Below.refl _ _⟩⟩
  · exact ⟨_, _, _, fun w => (setbit_no s a v w h).mono fun x w' ⟨h1, h2⟩ => ⟨h1, by rw [h2]; exact Below.refl _ _⟩, fun w => (rsetbit_no s a v w h).mono fun x w' ⟨h1, h2⟩ => ⟨h1, by rw [h2]; exact Below.refl _ _⟩⟩
set_option maxHeartbeats 1000000 in
theorem bits_walk (s : ByteArray) (a v : Int) (w : World) (hs : s.size ≤ 140737488351232) (ha : InI a) (hv : InI v) (hh : Has w) :
    Calls Tryd.prog 5 #[.string s, .int .i64 a, .int .i64 v] w fun e w' => e = .returned (.bool true) ∧ Below w.heap.size w w' := by
  obtain ⟨b, e, h1, h2⟩ := bits_both s a hs
  obtain ⟨r, c, e', h3, h4⟩ := set_both s a v hs
  have H1 := hid_of h1
  have H2 := hid_of h2
  have H3 := hid_of h3
  have H4 := hid_of h4
  have HH := hid_of hh
  clear h1 h2 h3 h4 ha hv hh
  go_enter Tryd.func5, Tryd.ntmps5
  go_wp2_with fail
  refine (H1.out _).mono ?_
  rintro e w1 ⟨rfl, b1⟩
  go_wp2_with fail
  refine (H2.out _).mono ?_
  rintro e w2 ⟨rfl, rfl⟩
  go_wp2_with fail
  refine (H3.out _).mono ?_
  rintro e w3 ⟨rfl, b3⟩
  have b13 := bel b1 b3 (Nat.le_refl _)
  go_wp2_with fail
  refine (H4.out _).mono ?_
  rintro e w4 ⟨rfl, b4⟩
  have b14 := bel b13 b4 (Nat.le_refl _)
  go_wp2_with fail
  refine (Sure.sure_call _ (HH.out.later b14)).mono ?_
  rintro e w5 ⟨rfl, b5⟩
  go_wp2
  go_ret
  exact ⟨rfl, bel b14 b5 (Nat.le_refl _)⟩
end Go.Proofs.YtdkdjgpeeglbhaaDoor.LawSplices
