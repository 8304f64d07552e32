/- The disk's small calls: within, outliving, strings.Clone, New, refuse. -/
import Derived.Test.YtilbffbmpgebmaaBase
namespace Go.Proofs.Ytilbffbmpgebmaa.Small
open Go.RowKit Go.Maps
open Go.Proofs.Ytilbffbmpgebmaa.DiskMath
open Go.Proofs.Ytilbffbmpgebmaa.Base
set_option linter.unusedVariables false

set_option maxRecDepth 100000 in
theorem within_call (n : Int) (a : Nat) (w : World) : Calls Try.prog 43 #[.int .i64 n, .int .i64 (a : Int)] w fun e w' => e = .returned (.int .i64 (within n a : Int)) ∧ w' = w := by
  go_enter Try.func43, Try.ntmps43
  go_wp2
  go_ret
  exact ⟨by rw [← within_eq]; rfl, rfl⟩
set_option maxRecDepth 100000 in
theorem clone_call (s : ByteArray) (hs : s.size ≤ 281474976710656) (w : World) : Calls Try.prog 63 #[.string s] w fun e w' => e = .returned (.string s) ∧ Below w.heap.size w w' := by
  have H1 := hid_of (fun w => Try.stringslite_Clone s w hs)
  go_enter Try.func63, Try.ntmps63
  go_wp2_with fail
  refine (H1.out _).mono ?_
  rintro e w1 ⟨rfl, b1⟩
  go_wp2_with fail
  go_ret
  exact ⟨rfl, b1⟩
set_option maxRecDepth 100000 in
theorem new_call (w : World) : Calls Try.prog 8 #[] w fun e w' => e = .returned (ptr (w.heap.size + 2)) ∧ (∃ y, DK w.heap.size (w.heap.size + 2) y new w') ∧ Below w.heap.size w w' := by
  have hmm := @run_makeMap Try.prog
  go_enter Try.func8, Try.ntmps8
  go_wp2
  go_ret
  have b1 := (Below.refl w.heap.size w).alloc (Nat.le_refl _) (.map #[] 0)
  have b2 := b1.alloc (by simp) (.map #[] 0)
  refine ⟨rfl, ⟨⟨w.heap.size, w.heap.size + 1, .slice none 0 0, .slice none 0 0, fun _ => 0, fun _ => .slice none 0 0⟩, ?_⟩, b2.alloc (by simp; omega) _⟩
  have m1 := World.ownsMap_made w Try.prog 9 RP
  have m2 := World.ownsMap_made (w.alloc (.map #[] 0)) Try.prog 9 RP
  have s1 : (w.alloc (.map #[] 0)).heap.size = w.heap.size + 1 := by simp
  have s2 : ((w.alloc (.map #[] 0)).alloc (.map #[] 0)).heap.size = w.heap.size + 2 := by simp
  rw [s1] at m2
  refine ⟨?_, Nat.le_add_right _ _, Nat.le_refl _, Nat.le_add_right _ _, by simp, (m1.alloc _).alloc _, m2.alloc _, World.ownsRow_nil _ _ _ _, Or.inl ⟨rfl, none, 0, rfl⟩, fun i x hx => by simp [new] at hx, fun i j hi => by simp [new] at hi, fun i j g hi => by simp [new] at hi, ?_, by simp; omega⟩
  · have := heap_alloc_new ((w.alloc (.map #[] 0)).alloc (.map #[] 0)) (.cells #[.map (some w.heap.size), .map (some (w.heap.size + 1)), .slice none 0 0, .slice none 0 0, .int .i64 0, .bool false] 69)
    rw [s2] at this
    exact this
  · exact ⟨⟨fun p h => by simp [new] at h, fun p h => by simp [new] at h, fun p h => by simp [new] at h⟩, ⟨fun p h => by simp [new] at h, fun p h => by simp [new] at h, fun p h => by simp [new] at h⟩, fun c h => by simp [new] at h, Nat.le_refl _, Nat.le_refl _, fun f h => by simp [new] at h⟩
/- refuse -/
set_option maxRecDepth 100000 in
theorem refuse_nil (l : Value) (w : World) : Calls Try.prog 48 #[.pointer none, l] w fun e w' => e = .returned (.int .i64 53) ∧ w' = w := by
  go_enter Try.func48, Try.ntmps48
  go_wp2
  go_ret
  exact ⟨rfl, rfl⟩
set_option maxRecDepth 100000 in
theorem refuse_any (base b : Nat) (y : Lay) (d : Dk) (w : World) (h : DK base b y d w) (l : Value) (c : Bool) (hc : Calls Try.prog 65 #[l, .string ⟨#[]⟩] w fun e w' => e = .returned (.bool c) ∧ w' = w) :
    Calls Try.prog 48 #[ptr b, l] w fun e w' => e = .returned (.int .i64 (if d.down then 53 else if c then 1 else 0)) ∧ w' = w := by
  have c5 : w.cell? ⟨b, 5, none⟩ = some (.bool d.down) := h.cell 5
  have H1 := hid_of hc
  clear h hc
  unfold ptr
  cases hd : d.down with
  | true =>
    rw [hd] at c5
    go_enter Try.func48, Try.ntmps48
    go_wp2_with fail
    go_ret
    exact ⟨rfl, rfl⟩
  | false =>
    rw [hd] at c5
    cases c with
    | true =>
      go_enter Try.func48, Try.ntmps48
      go_wp2_with fail
      refine H1.out.mono ?_
      rintro e w1 ⟨rfl, rfl⟩
      go_wp2_with fail
      go_ret
      exact ⟨rfl, rfl⟩
    | false =>
      go_enter Try.func48, Try.ntmps48
      go_wp2_with fail
      refine H1.out.mono ?_
      rintro e w1 ⟨rfl, rfl⟩
      go_wp2_with fail
      go_ret
      exact ⟨rfl, rfl⟩
theorem contains_one (s : ByteArray) (B : Nat) (w : World) (hc : w.cell? ⟨B, 0, none⟩ = some (.string s)) : Calls Try.prog 65 #[.slice (some ⟨B, 0, none⟩) 1 1, .string ⟨#[]⟩] w fun e w' => e = .returned (.bool (decide (bs s = []))) ∧ w' = w := by
  refine (Try.slices_Contains_string B 0 1 1 [s] ⟨#[]⟩ w (Nat.le_refl _) (by decide) (fun j hj => ?_)).mono ?_
  · have : j = 0 := by simpa using hj
    subst this
    exact hc
  · rintro e w' ⟨rfl, rfl⟩
    refine ⟨?_, rfl⟩
    congr 2
    rw [Bool.eq_iff_iff, Lib.containsS_iff, decide_eq_true_iff]
    simp
    constructor
    · intro h; rw [← h]; rfl
    · intro h; exact (of_bs (b := ⟨#[]⟩) h).symm
theorem contains_two (s t : ByteArray) (B : Nat) (w : World) (hc : w.cell? ⟨B, 0, none⟩ = some (.string s)) (ht : w.cell? ⟨B, 1, none⟩ = some (.string t)) : Calls Try.prog 65 #[.slice (some ⟨B, 0, none⟩) 2 2, .string ⟨#[]⟩] w fun e w' => e = .returned (.bool (decide ([] ∈ [bs s, bs t]))) ∧ w' = w := by
  refine (Try.slices_Contains_string B 0 2 2 [s, t] ⟨#[]⟩ w (Nat.le_refl _) (by decide) (fun j hj => ?_)).mono ?_
  · match j, hj with
    | 0, _ => exact hc
    | 1, _ => exact ht
  · rintro e w' ⟨rfl, rfl⟩
    refine ⟨?_, rfl⟩
    congr 2
    rw [Bool.eq_iff_iff, Lib.containsS_iff, decide_eq_true_iff]
    have e0 : ∀ x : ByteArray, (⟨#[]⟩ : ByteArray) = x ↔ [] = bs x := fun x => ⟨fun h => by rw [← h]; rfl, fun h => of_bs (a := ⟨#[]⟩) h⟩
    simp [e0]
end Go.Proofs.Ytilbffbmpgebmaa.Small
