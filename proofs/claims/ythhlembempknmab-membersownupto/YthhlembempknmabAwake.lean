/- What every statement asks first: some of chapter 11's examples. -/
import Derived.Test.YthhlembempknmabAfter
namespace Go.Proofs.Ythhlembempknmab.Awake
open Go.RowKit Go.Sort
open Go.Proofs.Ythhlembempknmab.SetMath
open Go.Proofs.Ythhlembempknmab.Base
open Go.Proofs.Ythhlembempknmab.Small
open Go.Proofs.Ythhlembempknmab.Of
open Go.Proofs.Ythhlembempknmab.Code
open Go.Proofs.Ythhlembempknmab.After
set_option linter.unusedVariables false
set_option linter.unusedSimpArgs false
theorem ex1 : S ([[98], [97]] ++ [[99], [97], [99]]) = [[97], [98], [99]] := S_is (by decide) fun x => by
  simp only [List.mem_cons, List.mem_append, List.not_mem_nil, or_false]
  constructor
  · rintro (h | h | h) <;> simp [h]
  · rintro ((h | h) | h | h | h) <;> simp [h]
theorem ex2 : S [[98], [97]] = [[97], [98]] := S_is (by decide) fun x => by
  simp only [List.mem_cons, List.not_mem_nil, or_false]
  constructor
  · rintro (h | h) <;> simp [h]
  · rintro (h | h) <;> simp [h]
theorem ex3 : S [[98], [97], [98]] = [[97], [98]] := S_is (by decide) fun x => by
  simp only [List.mem_cons, List.not_mem_nil, or_false]
  constructor
  · rintro (h | h) <;> simp [h]
  · rintro (h | h | h) <;> simp [h]
theorem new2 (w : World) (x y : Bs) : SL (fun k => w.heap.size ≤ k) (w.alloc (.cells #[.string (mk x), .string (mk y)] 9)) (.slice (some ⟨w.heap.size, 0, none⟩) 2 2) [x, y] := sl_new w [x, y]
theorem new3 (w : World) (x y z : Bs) : SL (fun k => w.heap.size ≤ k) (w.alloc (.cells #[.string (mk x), .string (mk y), .string (mk z)] 9)) (.slice (some ⟨w.heap.size, 0, none⟩) 3 3) [x, y, z] := sl_new w [x, y, z]
set_option maxHeartbeats 2000000 in
set_option maxRecDepth 100000 in
theorem awake_call (w : World) : Calls Try.prog 4 #[] w fun e w' => e = .returned (.bool true) ∧ Below w.heap.size w w' := by
  obtain ⟨A, hA⟩ : ∃ A : ByteArray, A = ⟨#[97]⟩ := ⟨_, rfl⟩
  obtain ⟨B, hB⟩ : ∃ B : ByteArray, B = ⟨#[98]⟩ := ⟨_, rfl⟩
  obtain ⟨C, hC⟩ : ∃ C : ByteArray, C = ⟨#[99]⟩ := ⟨_, rfl⟩
  have mA : mk [97] = ⟨#[97]⟩ := rfl
  have mB : mk [98] = ⟨#[98]⟩ := rfl
  have mC : mk [99] = ⟨#[99]⟩ := rfl
  have n1 := new2 w [98] [97]
  have b1 := (Below.refl w.heap.size w).alloc (Nat.le_refl _) (.cells #[.string (mk [98]), .string (mk [97])] 9)
  have n2 := new3 (w.alloc (.cells #[.string (mk [98]), .string (mk [97])] 9)) [99] [97] [99]
  have hz : (w.alloc (.cells #[.string (mk [98]), .string (mk [97])] 9)).heap.size = w.heap.size + 1 := by simp
  rw [hz] at n2
  have b2 := (Below.refl _ (w.alloc (.cells #[.string (mk [98]), .string (mk [97])] 9))).alloc (Nat.le_refl _) (.cells #[.string (mk [99]), .string (mk [97]), .string (mk [99])] 9)
  have HA := hid_of (add_call (n1.below b2) n2 (by decide))
  have B2 := hid_of (bel b1 b2 (Nat.le_refl _))
  rw [ex1, ex2] at HA
  simp only [mA, mB, mC] at HA B2
  have e1 : ((([[97], [98], [99]] : List Bs).length : Int) - (([[97], [98]] : List Bs).length : Int)) = 1 := by decide
  rw [e1] at HA
  clear n1 n2 b1 b2 hA hB hC hz
  go_enter Try.func4, Try.ntmps4
  go_wp2_with fail
  refine HA.out.mono ?_
  rintro e w1 ⟨r1, rfl, q1, k1⟩
  have B3 := hid_of (bel B2.out k1 (Nat.le_refl _))
  have n3 := new3 w1 [97] [98] [99]
  have b3 := (Below.refl _ w1).alloc (Nat.le_refl _) (.cells #[.string (mk [97]), .string (mk [98]), .string (mk [99])] 9)
  have HS := hid_of (same_true (q1.below b3).sl n3 rfl (by decide))
  have B4 := hid_of (bel B3.out b3 (Nat.le_refl _))
  obtain ⟨ra1, rc1, rfl, _⟩ := q1.shape
  simp only [mA, mB, mC] at HS B4
  simp only [List.length_cons, List.length_nil, Nat.zero_add, Nat.reduceAdd] at HS ⊢
  clear q1 k1 n3 b3 HA B2 B3
  go_wp2_with fail
  refine HS.out.mono ?_
  rintro e w2 ⟨rfl, m2, hw2⟩
  have B5 : Hid (Below w.heap.size w w2) := hid_of (by rw [hw2]; exact bdrew B4.out m2)
  have n4 := new3 w2 [98] [97] [98]
  have b4 := (Below.refl _ w2).alloc (Nat.le_refl _) (.cells #[.string (mk [98]), .string (mk [97]), .string (mk [98])] 9)
  have HO := hid_of (of_call n4 (by decide))
  have B6 := hid_of (bel B5.out b4 (Nat.le_refl _))
  rw [ex3] at HO
  simp only [mA, mB, mC] at HO B6
  clear n4 b4 hw2 HS B4 B5
  go_wp2_with fail
  refine HO.out.mono ?_
  rintro e w3 ⟨r3, rfl, q3, k3⟩
  have B7 := hid_of (bel B6.out k3 (Nat.le_refl _))
  have n5 := new2 w3 [97] [98]
  have b5 := (Below.refl _ w3).alloc (Nat.le_refl _) (.cells #[.string (mk [97]), .string (mk [98])] 9)
  have HS5 := hid_of (same_true (q3.below b5).sl n5 rfl (by decide))
  have B8 := hid_of (bel B7.out b5 (Nat.le_refl _))
  obtain ⟨ra3, rc3, rfl, _⟩ := q3.shape
  simp only [mA, mB, mC] at HS5 B8
  simp only [List.length_cons, List.length_nil, Nat.zero_add, Nat.reduceAdd] at HS5 ⊢
  clear q3 k3 n5 b5 HO B6 B7
  go_wp2_with fail
  refine HS5.out.mono ?_
  rintro e w4 ⟨rfl, m4, hw4⟩
  have B9 : Hid (Below w.heap.size w w4) := hid_of (by rw [hw4]; exact bdrew B8.out m4)
  clear hw4 HS5 B8
  go_wp2_with fail
  go_ret
  exact ⟨rfl, B9.out⟩
end Go.Proofs.Ythhlembempknmab.Awake
