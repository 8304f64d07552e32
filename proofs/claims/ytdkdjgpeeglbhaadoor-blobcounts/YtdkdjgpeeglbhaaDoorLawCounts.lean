/- The law BlobCounts, walked. -/
import Derived.Test.YtdkdjgpeeglbhaaDoorLawIncrs
import Derived.Deep.RegionHeld3
import Derived.Deep.RegionWith
namespace Go.Proofs.YtdkdjgpeeglbhaaDoor.LawCounts
open Go.RowKit
open Go.Proofs.YtdkdjgpeeglbhaaDoor.BlobMath
open Go.Proofs.YtdkdjgpeeglbhaaDoor.Span
open Go.Proofs.YtdkdjgpeeglbhaaDoor.Reads
open Go.Proofs.YtdkdjgpeeglbhaaDoor.Mem
open Go.Proofs.YtdkdjgpeeglbhaaDoor.Parse
open Go.Proofs.YtdkdjgpeeglbhaaDoor.LawIncrs
set_option linter.unusedVariables false
set_option linter.unusedSimpArgs false

set_option maxHeartbeats 4000000 in
set_option maxRecDepth 100000 in
theorem walk (s : ByteArray) (f t v : Int) (w : World) (hs : s.size ≤ 140737488351232) (hf : InI f) (ht : InI t) (hh : Has w) :
    Calls Tryd.prog 6 #[.string s, .agg #[.int .i64 f, .int .i64 t, .int .i64 v]] w fun e w' => e = .returned (.bool true) ∧ Below w.heap.size w w' := by
  obtain ⟨r, e, h1, h2⟩ := firsts s v f t hs hf ht
  have H1 := hid_of h1
  have H2 := hid_of h2
  have H3 := hid_of (fun w => count_call s f t w hs hf ht)
  have H4 := hid_of (fun w => rcount_call s f t w hs hf ht)
  have hb := sumPc_le s.data.toList (spA s.size f t) (spB s.size f t - spA s.size f t)
  generalize sumPc s.data.toList (spA s.size f t) (spB s.size f t - spA s.size f t) = S at *
  have HH := hid_of hh
  clear h1 h2 hf ht hh hb
  obtain ⟨wa, HWA⟩ : ∃ wa, Hid (wa = w.alloc (.cells #[.int .i64 f, .int .i64 t, .int .i64 v] 40)) := ⟨_, hid_of rfl⟩
  have HB : Hid (∀ W, Below wa.heap.size wa W → Below w.heap.size w W ∧ W.cell? ⟨w.heap.size, 0, none⟩ = some (.int .i64 f) ∧ W.cell? ⟨w.heap.size, 1, none⟩ = some (.int .i64 t) ∧ W.cell? ⟨w.heap.size, 2, none⟩ = some (.int .i64 v)) := by
    intro W b
    rw [HWA.out] at b
    have b0 := (Below.refl w.heap.size w).alloc (Nat.le_refl _) (.cells #[.int .i64 f, .int .i64 t, .int .i64 v] 40)
    have hl : w.heap.size < (w.alloc (.cells #[.int .i64 f, .int .i64 t, .int .i64 v] 40)).heap.size := by simp
    have hc : ∀ j, W.cell? ⟨w.heap.size, j, none⟩ = #[Value.int .i64 f, .int .i64 t, .int .i64 v][j]? := fun j => (b.cell (p := ⟨w.heap.size, j, none⟩) hl).trans (Lib.cell_of_heap (heap_alloc_new w _) j)
    exact ⟨bel b0 b (Nat.le_refl _), hc 0, hc 1, hc 2⟩
  have B0 : Hid (Below wa.heap.size wa wa) := Below.refl _ _
  go_enter Tryd.func6, Tryd.ntmps6
  go_wp2_with fail
  refine (H1.out _).mono ?_
  rintro e w1 ⟨rfl, rfl⟩
  go_wp2_with fail
  refine (H2.out _).mono ?_
  rintro e w2 ⟨rfl, rfl⟩
  go_wp2_with fail
  rw [← HWA.out]
  obtain ⟨-, p0, p1, p2⟩ := HB.out _ B0.out
  go_region_held3 (fun W => W.cell? ⟨w.heap.size, 0, none⟩ = some (.int .i64 f) ∧ W.cell? ⟨w.heap.size, 1, none⟩ = some (.int .i64 t) ∧ W.cell? ⟨w.heap.size, 2, none⟩ = some (.int .i64 v)) (first | exact ⟨p0, p1, p2⟩ | exact (HB.out _ B5.out).2 | exact (HB.out _ B4.out).2 | exact (HB.out _ B3.out).2) (first
    | (go_at_call 20; refine (H3.out _).mono ?_; rintro e w3 ⟨rfl, hw⟩; have B3 : Hid (Below wa.heap.size wa w3) := by { rw [hw]; exact B0.out.trans ⟨rfl, rfl, rfl, Nat.le_refl _, fun _ _ => rfl⟩ }; clear hw)
    | (go_at_call 21; refine (H4.out _).mono ?_; rintro e w4 ⟨rfl, hw⟩; have B4 : Hid (Below wa.heap.size wa w4) := by { rw [hw]; exact B3.out.trans ⟨rfl, rfl, rfl, Nat.le_refl _, fun _ _ => rfl⟩ }; clear hw)
    | (go_at_call 11; refine (Sure.sure_call _ (HH.out.later (HB.out _ B4.out).1)).mono ?_; rintro e w5 ⟨rfl, b5⟩; have B5 := hid_of (B4.out.trans (b5.mono B4.out.size)); clear b5))
  all_goals
    go_wp2_with fail
    go_ret
    exact ⟨rfl, (HB.out _ B5.out).1⟩
end Go.Proofs.YtdkdjgpeeglbhaaDoor.LawCounts
