/- The texts of names, on both sides; the empty text. -/
import Derived.Test.YtighoelipihifaaDoorTexts
namespace Go.Proofs.YtighoelipihifaaDoor.Texts2
open Go.RowKit Go.Maps Go.Sort
open Go.Proofs.YtighoelipihifaaDoor.RankMath
open Go.Proofs.YtighoelipihifaaDoor.RankMath2
open Go.Proofs.YtighoelipihifaaDoor.RankMath3
open Go.Proofs.YtighoelipihifaaDoor.Base
open Go.Proofs.YtighoelipihifaaDoor.Rank1
open Go.Proofs.YtighoelipihifaaDoor.Sure
open Go.Proofs.YtighoelipihifaaDoor.Texts
open Go.Proofs.YtighoelipihifaaDoor.TextMath
open Go.Proofs.YtighoelipihifaaDoor.Parse (Has)
set_option linter.unusedVariables false
set_option maxHeartbeats 4000000 in
set_option maxRecDepth 100000 in
theorem rs_none (w : World) (HP : Hid (∀ V, Below w.heap.size w V → Calls Tryd.prog 22 #[.string ⟨#[]⟩] V fun x w' => x = .returned (.tuple #[.int .i64 0, .int .i64 10]) ∧ Below V.heap.size V w')) : Calls Tryd.prog 6 #[.string ⟨#[]⟩] w fun z w' => z = outB 0 false 0 ⟨#[]⟩ 121 ∧ Below w.heap.size w w' := by
  obtain ⟨V, hV⟩ : ∃ V, V = w.alloc zB := ⟨_, rfl⟩
  have bV : Below w.heap.size w V := by rw [hV]; exact bnew w _
  have H1 := hid_of (HP.out V bV)
  have HX : Hid (∀ W, Below V.heap.size V W → W.heap[w.heap.size]? = some (.cells #[.int .i64 0, .bool false, .int .i64 0, .string ⟨#[]⟩] 23 (0, 0))) := hid_of fun W hW => (hW.block _ (by rw [hV]; simp)).trans (by rw [hV]; exact heap_alloc_new w zB)
  have HB := hid_of bV
  have HV := hid_of hV
  clear hV bV HP
  unfold zB at *
  unfold outB
  go_enter Tryd.func6, Tryd.ntmps6
  go_wp2_with fail
  rw [← HV.out]
  refine H1.out.mono ?_
  rintro z w1 hw1
  obtain ⟨rfl, b1⟩ := hw1
  have hx := HX.out w1 b1
  have x0 : w1.cell? ⟨w.heap.size, 0, none⟩ = some (.int .i64 0) := Lib.cell_of_heap hx 0
  have x1 : w1.cell? ⟨w.heap.size, 1, none⟩ = some (.bool false) := Lib.cell_of_heap hx 1
  have x2 : w1.cell? ⟨w.heap.size, 2, none⟩ = some (.int .i64 0) := Lib.cell_of_heap hx 2
  have x3 : w1.cell? ⟨w.heap.size, 3, none⟩ = some (.string ⟨#[]⟩) := Lib.cell_of_heap hx 3
  have y0 : w1.frozen? ⟨w.heap.size, 0, none⟩ = false := Lib.frozen_of_heap hx 0
  have y1 : w1.frozen? ⟨w.heap.size, 1, none⟩ = false := Lib.frozen_of_heap hx 1
  have y2 : w1.frozen? ⟨w.heap.size, 2, none⟩ = false := Lib.frozen_of_heap hx 2
  have y3 : w1.frozen? ⟨w.heap.size, 3, none⟩ = false := Lib.frozen_of_heap hx 3
  have HXX := hid_of hx
  have HB1 := hid_of (Base.bel HB.out b1 (Nat.le_refl _))
  clear b1 hx
  go_wp2_with fail
  obtain ⟨f0, f1, f2, f3⟩ := box4 HXX.out rfl (.int .i64 0) (.bool false) (.int .i64 0) (.string ⟨#[]⟩)
  refine ⟨rfl, .tuple #[.agg #[.int .i64 0, .bool false, .int .i64 0, .string ⟨#[]⟩], .int .i64 121], ?_, rfl, (((HB1.out.setCell (Nat.le_refl _) _).setCell (Nat.le_refl _) _).setCell (Nat.le_refl _) _).setCell (Nat.le_refl _) _⟩
  simp [results, Tryd.results6, go_sem, f0, f1, f2, f3]
set_option maxHeartbeats 2000000 in
set_option maxRecDepth 100000 in
theorem cn_m (w : World) : Calls Tryd.prog 7 #[.string ⟨#[45]⟩] w fun z w' => z = outB (-1) false 0 ⟨#[]⟩ 0 ∧ Below w.heap.size w w' := by
  unfold outB
  go_enter Tryd.func7, Tryd.ntmps7
  go_wp2_with fail
  refine ⟨rfl, .tuple #[.agg #[.int .i64 (-1), .bool false, .int .i64 0, .string ⟨#[]⟩], .int .i64 0], ?_, rfl, bnew w _⟩
  simp [results, Tryd.results7, go_sem]
set_option maxHeartbeats 2000000 in
set_option maxRecDepth 100000 in
theorem cn_p (w : World) : Calls Tryd.prog 7 #[.string ⟨#[43]⟩] w fun z w' => z = outB 1 false 0 ⟨#[]⟩ 0 ∧ Below w.heap.size w w' := by
  unfold outB
  go_enter Tryd.func7, Tryd.ntmps7
  go_wp2_with fail
  refine ⟨rfl, .tuple #[.agg #[.int .i64 1, .bool false, .int .i64 0, .string ⟨#[]⟩], .int .i64 0], ?_, rfl, bnew w _⟩
  simp [results, Tryd.results7, go_sem]
set_option maxHeartbeats 2000000 in
set_option maxRecDepth 100000 in
theorem cn_none (w : World) : Calls Tryd.prog 7 #[.string ⟨#[]⟩] w fun z w' => z = outB 0 false 0 ⟨#[]⟩ 121 ∧ Below w.heap.size w w' := by
  unfold outB
  go_enter Tryd.func7, Tryd.ntmps7
  go_wp2_with fail
  refine ⟨rfl, .tuple #[.agg #[.int .i64 0, .bool false, .int .i64 0, .string ⟨#[]⟩], .int .i64 121], ?_, rfl, bnew w _⟩
  simp [results, Tryd.results7, go_sem]
set_option maxHeartbeats 4000000 in
set_option maxRecDepth 100000 in
theorem cn_sq (s : ByteArray) (w : World) (t : ByteArray) (ht : t = s.extract 1 s.size) (h0 : 0 < s.size) (h1 : (s.toList == [45]) = false) (h2 : (s.toList == [43]) = false) (h4 : (s.toList == []) = false) (h91 : ((s[0].toNat : Int) == 91) = true) (h40 : ((s[0].toNat : Int) == 40) = false) : Calls Tryd.prog 7 #[.string s] w fun z w' => z = outB 0 false 0 t 0 ∧ Below w.heap.size w w' := by
  have hsl := slice1 s h0
  rw [← ht] at hsl
  clear ht
  unfold outB
  go_enter Tryd.func7, Tryd.ntmps7
  go_wp2_with fail
  refine ⟨rfl, .tuple #[.agg #[.int .i64 0, .bool false, .int .i64 0, .string t], .int .i64 0], ?_, rfl, bnew w _⟩
  simp [results, Tryd.results7, go_sem]
set_option maxHeartbeats 4000000 in
set_option maxRecDepth 100000 in
theorem cn_ro (s : ByteArray) (w : World) (t : ByteArray) (ht : t = s.extract 1 s.size) (h0 : 0 < s.size) (h1 : (s.toList == [45]) = false) (h2 : (s.toList == [43]) = false) (h4 : (s.toList == []) = false) (h91 : ((s[0].toNat : Int) == 91) = false) (h40 : ((s[0].toNat : Int) == 40) = true) : Calls Tryd.prog 7 #[.string s] w fun z w' => z = outB 0 true 0 t 0 ∧ Below w.heap.size w w' := by
  have hsl := slice1 s h0
  rw [← ht] at hsl
  clear ht
  unfold outB
  go_enter Tryd.func7, Tryd.ntmps7
  go_wp2_with fail
  refine ⟨rfl, .tuple #[.agg #[.int .i64 0, .bool true, .int .i64 0, .string t], .int .i64 0], ?_, rfl, bnew w _⟩
  simp [results, Tryd.results7, go_sem]
set_option maxHeartbeats 4000000 in
set_option maxRecDepth 100000 in
theorem cn_no (s : ByteArray) (w : World) (t : ByteArray) (ht : t = s.extract 1 s.size) (h0 : 0 < s.size) (h1 : (s.toList == [45]) = false) (h2 : (s.toList == [43]) = false) (h4 : (s.toList == []) = false) (h91 : ((s[0].toNat : Int) == 91) = false) (h40 : ((s[0].toNat : Int) == 40) = false) : Calls Tryd.prog 7 #[.string s] w fun z w' => z = outB 0 false 0 ⟨#[]⟩ 121 ∧ Below w.heap.size w w' := by
  have hsl := slice1 s h0
  rw [← ht] at hsl
  clear ht
  unfold outB
  go_enter Tryd.func7, Tryd.ntmps7
  go_wp2_with fail
  refine ⟨rfl, .tuple #[.agg #[.int .i64 0, .bool false, .int .i64 0, .string ⟨#[]⟩], .int .i64 121], ?_, rfl, bnew w _⟩
  simp [results, Tryd.results7, go_sem]
set_option maxHeartbeats 2000000 in
set_option maxRecDepth 100000 in
theorem rn_m (w : World) : Calls Tryd.prog 8 #[.string ⟨#[45]⟩] w fun z w' => z = outB (-1) false 0 ⟨#[]⟩ 0 ∧ Below w.heap.size w w' := by
  unfold outB
  go_enter Tryd.func8, Tryd.ntmps8
  go_wp2_with fail
  refine ⟨rfl, .tuple #[.agg #[.int .i64 (-1), .bool false, .int .i64 0, .string ⟨#[]⟩], .int .i64 0], ?_, rfl, bnew w _⟩
  simp [results, Tryd.results8, go_sem]
set_option maxHeartbeats 2000000 in
set_option maxRecDepth 100000 in
theorem rn_p (w : World) : Calls Tryd.prog 8 #[.string ⟨#[43]⟩] w fun z w' => z = outB 1 false 0 ⟨#[]⟩ 0 ∧ Below w.heap.size w w' := by
  unfold outB
  go_enter Tryd.func8, Tryd.ntmps8
  go_wp2_with fail
  refine ⟨rfl, .tuple #[.agg #[.int .i64 1, .bool false, .int .i64 0, .string ⟨#[]⟩], .int .i64 0], ?_, rfl, bnew w _⟩
  simp [results, Tryd.results8, go_sem]
set_option maxHeartbeats 2000000 in
set_option maxRecDepth 100000 in
theorem rn_none (w : World) : Calls Tryd.prog 8 #[.string ⟨#[]⟩] w fun z w' => z = outB 0 false 0 ⟨#[]⟩ 121 ∧ Below w.heap.size w w' := by
  unfold outB
  go_enter Tryd.func8, Tryd.ntmps8
  go_wp2_with fail
  refine ⟨rfl, .tuple #[.agg #[.int .i64 0, .bool false, .int .i64 0, .string ⟨#[]⟩], .int .i64 121], ?_, rfl, bnew w _⟩
  simp [results, Tryd.results8, go_sem]
set_option maxHeartbeats 4000000 in
set_option maxRecDepth 100000 in
theorem rn_sq (s : ByteArray) (w : World) (t : ByteArray) (ht : t = s.extract 1 s.size) (h0 : 0 < s.size) (h1 : (s.toList == [45]) = false) (h2 : (s.toList == [43]) = false) (h4 : (s.toList == []) = false) (h91 : ((s[0].toNat : Int) == 91) = true) (h40 : ((s[0].toNat : Int) == 40) = false) : Calls Tryd.prog 8 #[.string s] w fun z w' => z = outB 0 false 0 t 0 ∧ Below w.heap.size w w' := by
  have hsl := slice1 s h0
  rw [← ht] at hsl
  clear ht
  unfold outB
  go_enter Tryd.func8, Tryd.ntmps8
  go_wp2_with fail
  go_region
  go_wp2_with fail
  refine ⟨rfl, .tuple #[.agg #[.int .i64 0, .bool false, .int .i64 0, .string t], .int .i64 0], ?_, rfl, (bnew w _).drew⟩
  simp [results, Tryd.results8, go_sem]
set_option maxHeartbeats 4000000 in
set_option maxRecDepth 100000 in
theorem rn_ro (s : ByteArray) (w : World) (t : ByteArray) (ht : t = s.extract 1 s.size) (h0 : 0 < s.size) (h1 : (s.toList == [45]) = false) (h2 : (s.toList == [43]) = false) (h4 : (s.toList == []) = false) (h91 : ((s[0].toNat : Int) == 91) = false) (h40 : ((s[0].toNat : Int) == 40) = true) : Calls Tryd.prog 8 #[.string s] w fun z w' => z = outB 0 true 0 t 0 ∧ Below w.heap.size w w' := by
  have hsl := slice1 s h0
  rw [← ht] at hsl
  clear ht
  unfold outB
  go_enter Tryd.func8, Tryd.ntmps8
  go_wp2_with fail
  go_region
  go_wp2_with fail
  refine ⟨rfl, .tuple #[.agg #[.int .i64 0, .bool true, .int .i64 0, .string t], .int .i64 0], ?_, rfl, (bnew w _).drew⟩
  simp [results, Tryd.results8, go_sem]
set_option maxHeartbeats 4000000 in
set_option maxRecDepth 100000 in
theorem rn_no (s : ByteArray) (w : World) (t : ByteArray) (ht : t = s.extract 1 s.size) (h0 : 0 < s.size) (h1 : (s.toList == [45]) = false) (h2 : (s.toList == [43]) = false) (h4 : (s.toList == []) = false) (h91 : ((s[0].toNat : Int) == 91) = false) (h40 : ((s[0].toNat : Int) == 40) = false) : Calls Tryd.prog 8 #[.string s] w fun z w' => z = outB 0 false 0 ⟨#[]⟩ 121 ∧ Below w.heap.size w w' := by
  have hsl := slice1 s h0
  rw [← ht] at hsl
  clear ht
  unfold outB
  go_enter Tryd.func8, Tryd.ntmps8
  go_wp2_with fail
  refine ⟨rfl, .tuple #[.agg #[.int .i64 0, .bool false, .int .i64 0, .string ⟨#[]⟩], .int .i64 121], ?_, rfl, bnew w _⟩
  simp [results, Tryd.results8, go_sem]
end Go.Proofs.YtighoelipihifaaDoor.Texts2
