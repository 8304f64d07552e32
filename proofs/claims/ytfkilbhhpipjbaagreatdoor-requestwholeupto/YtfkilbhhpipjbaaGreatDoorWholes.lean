/- RequestWhole, walked: a stream is read as the document says. -/
import Derived.Test.YtfkilbhhpipjbaaGreatDoorWholeMath
import Derived.Deep.RegionHeld3
import Derived.Test.YtfkilbhhpipjbaaGreatDoorRefWhole
import Derived.Test.YtfkilbhhpipjbaaGreatDoorRight
import Derived.Test.YtfkilbhhpipjbaaGreatDoorSure
import Derived.Test.YtfkilbhhpipjbaaGreatDoorDouble2
import Derived.Test.YtfkilbhhpipjbaaGreatDoorLists
namespace Go.Proofs.YtfkilbhhpipjbaaGreatDoor.Wholes
open Go.RowKit
open Go.Proofs.YtfkilbhhpipjbaaGreatDoor.TextMath
open Go.Proofs.YtfkilbhhpipjbaaGreatDoor.ReqMath
open Go.Proofs.YtfkilbhhpipjbaaGreatDoor.Base
open Go.Proofs.YtfkilbhhpipjbaaGreatDoor.Small
open Go.Proofs.YtfkilbhhpipjbaaGreatDoor.BulkAny
open Go.Proofs.YtfkilbhhpipjbaaGreatDoor.SplitC
open Go.Proofs.YtfkilbhhpipjbaaGreatDoor.Lists
open Go.Proofs.YtfkilbhhpipjbaaGreatDoor.Whole
open Go.Proofs.YtfkilbhhpipjbaaGreatDoor.Right
open Go.Proofs.YtfkilbhhpipjbaaGreatDoor.Sure
open Go.Proofs.YtfkilbhhpipjbaaGreatDoor.WholeMath
open Go.Proofs.YtfkilbhhpipjbaaGreatDoor.RefWhole
set_option linter.unusedVariables false
set_option maxRecDepth 100000 in
set_option maxHeartbeats 4000000 in
theorem wholes_walk (x y z c0 N : Int) (X s : ByteArray) (reqs : List (List (List UInt8))) (w : World) (hh : Has w) (hl : reqs.length ≤ 1000000000) (hr : ∀ r, r ∈ reqs → r.length ≤ 1000000000)
    (h9 : ∀ w1, Has w1 → Calls Tryz.prog 9 #[.agg #[.int .i64 x, .int .i64 y, .int .i64 z], .string s] w1 fun e w' => ∃ v, e = wh v X N ∧ WA w' v reqs ∧ Below w1.heap.size w1 w')
    (h10 : ∀ w1, Has w1 → Calls Tryz.prog 10 #[.agg #[.int .i64 x, .int .i64 y, .int .i64 z], .string s] w1 fun e w' => ∃ v, e = wh v X N ∧ WA w' v reqs ∧ Below w1.heap.size w1 w')
    (h12 : ∀ w1, Calls Tryz.prog 12 #[.agg #[.int .i64 x, .int .i64 y, .int .i64 z]] w1 fun e w' => e = .returned (.int .i64 c0) ∧ Below w1.heap.size w1 w')
    (h13 : ∀ w1, Calls Tryz.prog 13 #[.agg #[.int .i64 x, .int .i64 y, .int .i64 z]] w1 fun e w' => e = .returned (.int .i64 c0) ∧ Below w1.heap.size w1 w') (hc : c0 = 0 ∨ c0 = 40) :
    Calls Tryz.prog 3 #[.agg #[.int .i64 x, .int .i64 y, .int .i64 z], .string s] w fun e w' => e = .returned (.bool true) ∧ Below w.heap.size w w' := by
  have H9 := hid_of h9
  have H10 := hid_of h10
  have H12 := hid_of h12
  have H13 := hid_of h13
  have H14 := hid_of (fun w2 (h2 : Has w2) => sure_call w2 h2)
  have H11 := hid_of (fun u v w1 (hu : AR w1 u reqs) (hv : AR w1 v reqs) => all_call u v reqs reqs w1 hu hv hl hr)
  have hdec : decide (reqs = reqs) = true := decide_eq_true rfl
  rw [hdec] at H11
  have HH := hid_of hh
  have hcc : IntKind.i64.wrap c0 = c0 := by rcases hc with rfl | rfl <;> rfl
  have heq : (c0 == c0) = true := by simp
  have heN : (N == N) = true := by simp
  clear h9 h10 h12 h13 hh hl hr hdec hc
  unfold wh at *
  obtain ⟨wa, hwa⟩ : ∃ wa, wa = w.alloc (.cells #[.int .i64 x, .int .i64 y, .int .i64 z] 23) := ⟨_, rfl⟩
  have HB : Hid (∀ w', Below wa.heap.size wa w' → Below w.heap.size w w' ∧ w'.cell? ⟨w.heap.size, 0, none⟩ = some (.int .i64 x) ∧ w'.cell? ⟨w.heap.size, 1, none⟩ = some (.int .i64 y) ∧ w'.cell? ⟨w.heap.size, 2, none⟩ = some (.int .i64 z)) := by
    intro w' hb
    have hz0 : wa.heap[w.heap.size]? = some (.cells #[.int .i64 x, .int .i64 y, .int .i64 z] 23 (0, 0)) := by rw [hwa]; exact heap_alloc_new w _
    have hz1 : w'.heap[w.heap.size]? = some (.cells #[.int .i64 x, .int .i64 y, .int .i64 z] 23 (0, 0)) := (hb.block _ (lt_of hz0)).trans hz0
    refine ⟨?_, by rw [Lib.cell_of_heap hz1]; rfl, by rw [Lib.cell_of_heap hz1]; rfl, by rw [Lib.cell_of_heap hz1]; rfl⟩
    have h0 : Below w.heap.size w wa := by rw [hwa]; exact (Below.refl _ w).alloc (Nat.le_refl _) _
    exact h0.trans (hb.mono h0.size)
  have BA := hid_of (Below.refl wa.heap.size wa)
  go_enter Tryz.func3, Tryz.ntmps3
  go_wp2_with fail
  rw [← hwa]
  clear hwa
  refine (H9.out _ (HH.out.later (HB.out _ BA.out).1)).mono ?_
  rintro e w1 ⟨v1, rfl, a1, b1⟩
  have B1 := hid_of b1
  have A1 := hid_of (ar_wa a1)
  obtain ⟨-, p0, p1, p2⟩ := HB.out _ b1
  clear a1 b1
  obtain ⟨d1, f1, rfl, -⟩ := A1.out
  go_wp2_with fail
  refine (H10.out _ (HH.out.later (HB.out _ B1.out).1)).mono ?_
  rintro e w2 ⟨v2, rfl, a2, b2⟩
  have B2 := hid_of (B1.out.trans (b2.mono B1.out.size))
  have A2 := hid_of (And.intro (ar_below A1.out b2) (ar_wa a2))
  clear a2 b2 p0 p1 p2
  obtain ⟨d2, f2, rfl, -⟩ := A2.out.2
  go_wp2_with fail
  have D2 : Hid (AR w2.drew (.slice d1 reqs.length f1) reqs ∧ AR w2.drew (.slice d2 reqs.length f2) reqs) := ⟨ar_cells A2.out.1 (fun a x hx => hx), ar_cells A2.out.2 (fun a x hx => hx)⟩
  obtain ⟨-, p0, p1, p2⟩ := HB.out _ B2.out
  go_region_held3 (fun W => W.cell? ⟨w.heap.size, 0, none⟩ = some (.int .i64 x) ∧ W.cell? ⟨w.heap.size, 1, none⟩ = some (.int .i64 y) ∧ W.cell? ⟨w.heap.size, 2, none⟩ = some (.int .i64 z)) (first | exact ⟨p0, p1, p2⟩ | exact (HB.out _ B6.out).2 | exact (HB.out _ B5.out).2 | exact (HB.out _ B4.out).2 | exact (HB.out _ B3.out).2) (first
    | (go_at_call 11; refine Calls.mono (H11.out _ _ _ D2.out.1 D2.out.2) ?_; rintro e w3 ⟨rfl, n, hw⟩; have B3 : Hid (Below wa.heap.size wa w3) := by { rw [hw]; exact B2.out.trans ⟨rfl, rfl, rfl, Nat.le_refl _, fun _ _ => rfl⟩ }; clear hw)
    | (go_at_call 12; refine (H12.out _).mono ?_; rintro e w4 ⟨rfl, b4⟩; have B4 := hid_of (B3.out.trans (b4.mono B3.out.size)); clear b4)
    | (go_at_call 13; refine (H13.out _).mono ?_; rintro e w5 ⟨rfl, b5⟩; have B5 := hid_of (B4.out.trans (b5.mono B4.out.size)); clear b5)
    | (go_at_call 14; refine (H14.out _ (HH.out.later (HB.out _ B5.out).1)).mono ?_; rintro e w6 ⟨rfl, b6⟩; have B6 := hid_of (B5.out.trans (b6.mono B5.out.size)); clear b6))
  all_goals
    go_wp2_with fail
    go_ret
    exact ⟨rfl, (HB.out _ B6.out).1⟩
theorem wholes_no (x y z : Int) (h : okB x y z = false) (s : ByteArray) (w : World) (hh : Has w) :
    Calls Tryz.prog 3 #[.agg #[.int .i64 x, .int .i64 y, .int .i64 z], .string s] w fun e w' => e = .returned (.bool true) ∧ Below w.heap.size w w' :=
  wholes_walk x y z 40 0 ⟨#[]⟩ s [] w hh (Nat.zero_le _) (fun r hr => by cases hr)
    (fun w1 _ => (whole_no x y z h s w1).mono fun e w' q => ⟨_, q.1, wa_nil _, q.2⟩)
    (fun w1 _ => (rwhole_no x y z h s w1).mono fun e w' q => ⟨_, q.1, wa_nil _, q.2⟩)
    (fun w1 => (check_no x y z h w1).mono fun e w' q => ⟨q.1, by rw [q.2]; exact (Below.refl _ w1).alloc (Nat.le_refl _) _⟩)
    (fun w1 => rcheck_no x y z h w1) (Or.inr rfl)
theorem wholes_yes (L : Lim) (h : okB L.bulk L.args L.line = true) (s : ByteArray) (hz : s.size ≤ 67108864) (w : World) (hh : Has w) :
    Calls Tryz.prog 3 #[limV L, .string s] w fun e w' => e = .returned (.bool true) ∧ Below w.heap.size w w' := by
  obtain ⟨i1, i2⟩ := whole_args (L := L) _ (bs s) (Nat.le_refl _)
  have hsl : (bs s).length = s.size := len_bs s
  have hla : L.args ≤ 65536 := (lok_of h).args.2
  exact wholes_walk L.bulk L.args L.line 0 ((wholeS L (bs s)).used : Int) (mk (wholeS L (bs s)).word) s (wholeS L (bs s)).reqs w hh (by omega) (fun r hr => by have := i2 r hr; omega)
    (fun w1 h1 => whole_call L h s hz w1 h1 (Or.inr Double2.double_means))
    (fun w1 h1 => rwhole_call L h s hz w1 h1.size)
    (fun w1 => (check_ok L.bulk L.args L.line h w1).mono fun e w' q => ⟨q.1, by rw [q.2]; exact (Below.refl _ w1).alloc (Nat.le_refl _) _⟩)
    (fun w1 => rcheck_ok L.bulk L.args L.line h w1) (Or.inl rfl)
end Go.Proofs.YtfkilbhhpipjbaaGreatDoor.Wholes
