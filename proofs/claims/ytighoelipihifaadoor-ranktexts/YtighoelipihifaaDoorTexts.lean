/- The two texts that stand for bounds, on both sides. -/
import Derived.Test.YtighoelipihifaaDoorSure
import Derived.Test.YtighoelipihifaaDoorRefBelow
namespace Go.Proofs.YtighoelipihifaaDoor.Texts
open Go.RowKit Go.Maps Go.Sort
open Go.Proofs.YtighoelipihifaaDoor.RankMath
open Go.Proofs.YtighoelipihifaaDoor.RankMath2
open Go.Proofs.YtighoelipihifaaDoor.RankMath3
open Go.Proofs.YtighoelipihifaaDoor.Base
open Go.Proofs.YtighoelipihifaaDoor.Rank1
open Go.Proofs.YtighoelipihifaaDoor.Sure
open Go.Proofs.YtighoelipihifaaDoor.TextMath
open Go.Proofs.YtighoelipihifaaDoor.Parse (Has)
set_option linter.unusedVariables false

abbrev inf0 : Bnd := ⟨0, false, 0, []⟩
def outB (i : Int) (o : Bool) (c : Int) (s : ByteArray) (e : Int) : Ending := .returned (.tuple #[.agg #[.int .i64 i, .bool o, .int .i64 c, .string s], .int .i64 e])
theorem slice1 (s : ByteArray) (h : 0 < s.size) : ∀ w, (Instr.slice 9 (.string s) (some (.int .i64 1)) none none).run Tryd.prog w = .ok (.string (s.extract 1 s.size)) w := by
  intro w
  rw [run_slice_string_from_if (P := Tryd.prog) (w := w) 9 s .i64 1 Tryd.underlying9, if_pos ⟨by omega, by omega⟩]
  rfl
set_option maxRecDepth 100000 in
theorem rmay_call (n : Int) (w : World) : Calls Tryd.prog 23 #[.int .i64 n] w fun e w' => e = .returned (.bool (decide (May n))) ∧ w' = w := by
  by_cases h1 : -9007199254740992 ≤ n
  · by_cases h2 : n ≤ 9007199254740992
    · have HM : Hid (decide (May n) = true) := hid_of (decide_eq_true ⟨h1, h2⟩)
      go_enter Tryd.func23, Tryd.ntmps23
      go_wp2
      go_ret
      exact ⟨by rw [HM.out]; rfl, rfl⟩
    · have HM : Hid (decide (May n) = false) := hid_of (decide_eq_false fun h => h2 h.2)
      go_enter Tryd.func23, Tryd.ntmps23
      go_wp2
      go_ret
      exact ⟨by rw [HM.out]; rfl, rfl⟩
  · have HM : Hid (decide (May n) = false) := hid_of (decide_eq_false fun h => h1 h.1)
    go_enter Tryd.func23, Tryd.ntmps23
    go_wp2
    go_ret
    exact ⟨by rw [HM.out]; rfl, rfl⟩
set_option maxHeartbeats 2000000 in
set_option maxRecDepth 100000 in
theorem cs_minf (w : World) : Calls Tryd.prog 5 #[.string ⟨#[45, 105, 110, 102]⟩] w fun z w' => z = outB (-1) false 0 ⟨#[]⟩ 0 ∧ Below w.heap.size w w' := by
  unfold outB
  go_enter Tryd.func5, Tryd.ntmps5
  go_wp2_with fail
  refine ⟨rfl, .tuple #[.agg #[.int .i64 (-1), .bool false, .int .i64 0, .string ⟨#[]⟩], .int .i64 0], ?_, rfl, bnew w _⟩
  simp [results, Tryd.results5, go_sem]
set_option maxHeartbeats 2000000 in
set_option maxRecDepth 100000 in
theorem cs_pinf (w : World) : Calls Tryd.prog 5 #[.string ⟨#[43, 105, 110, 102]⟩] w fun z w' => z = outB 1 false 0 ⟨#[]⟩ 0 ∧ Below w.heap.size w w' := by
  unfold outB
  go_enter Tryd.func5, Tryd.ntmps5
  go_wp2_with fail
  refine ⟨rfl, .tuple #[.agg #[.int .i64 1, .bool false, .int .i64 0, .string ⟨#[]⟩], .int .i64 0], ?_, rfl, bnew w _⟩
  simp [results, Tryd.results5, go_sem]
set_option maxHeartbeats 2000000 in
set_option maxRecDepth 100000 in
theorem cs_inf (w : World) : Calls Tryd.prog 5 #[.string ⟨#[105, 110, 102]⟩] w fun z w' => z = outB 1 false 0 ⟨#[]⟩ 0 ∧ Below w.heap.size w w' := by
  unfold outB
  go_enter Tryd.func5, Tryd.ntmps5
  go_wp2_with fail
  refine ⟨rfl, .tuple #[.agg #[.int .i64 1, .bool false, .int .i64 0, .string ⟨#[]⟩], .int .i64 0], ?_, rfl, bnew w _⟩
  simp [results, Tryd.results5, go_sem]
set_option maxHeartbeats 2000000 in
set_option maxRecDepth 100000 in
theorem cs_none (w : World) : Calls Tryd.prog 5 #[.string ⟨#[]⟩] w fun z w' => z = outB 0 false 0 ⟨#[]⟩ 121 ∧ Below w.heap.size w w' := by
  unfold outB
  go_enter Tryd.func5, Tryd.ntmps5
  go_wp2_with fail
  refine ⟨rfl, .tuple #[.agg #[.int .i64 0, .bool false, .int .i64 0, .string ⟨#[]⟩], .int .i64 121], ?_, rfl, bnew w _⟩
  simp [results, Tryd.results5, go_sem]
set_option maxHeartbeats 4000000 in
set_option maxRecDepth 100000 in
theorem cs_true_err (s : ByteArray) (w : World) (n : Int) (h0 : 0 < s.size) (h1 : (s.toList == [45, 105, 110, 102]) = false) (h2 : (s.toList == [43, 105, 110, 102]) = false) (h3 : (s.toList == [105, 110, 102]) = false) (h4 : (s.toList == []) = false) (h40 : ((s[0].toNat : Int) == 40) = true)
    (HP : Hid (∀ V, Below w.heap.size w V → Calls Tryd.prog 20 #[.string (s.extract 1 s.size)] V fun x w' => x = .returned (.tuple #[.int .i64 n, .int .i64 10]) ∧ Below V.heap.size V w')) : Calls Tryd.prog 5 #[.string s] w fun z w' => z = outB 0 false 0 ⟨#[]⟩ 121 ∧ Below w.heap.size w w' := by
  obtain ⟨V, hV⟩ : ∃ V, V = w.alloc zB := ⟨_, rfl⟩
  have bV : Below w.heap.size w V := by rw [hV]; exact bnew w _
  have H1 := hid_of (HP.out V bV)
  obtain ⟨t, ht⟩ : ∃ t, t = s.extract 1 s.size := ⟨_, rfl⟩
  have hsl := slice1 s h0
  rw [← ht] at hsl H1
  clear ht
  have HX : Hid (∀ W, Below V.heap.size V W → W.heap[w.heap.size]? = some (.cells #[.int .i64 0, .bool false, .int .i64 0, .string ⟨#[]⟩] 23 (0, 0))) := hid_of fun W hW => (hW.block _ (by rw [hV]; simp)).trans (by rw [hV]; exact heap_alloc_new w zB)
  have HB := hid_of bV
  have HV := hid_of hV
  clear hV bV HP
  unfold zB at *
  unfold outB
  go_enter Tryd.func5, Tryd.ntmps5
  go_wp2_with fail
  rw [← HV.out]
  refine H1.out.mono ?_
  rintro z w1 hw1
  obtain ⟨rfl, b1⟩ := hw1
  have hx := HX.out w1 b1
  have x0 : w1.cell? ⟨w.heap.size, 0, none⟩ = some (.int .i64 0) := Lib.cell_of_heap hx 0
  have x1 : w1.cell? ⟨w.heap.size, 1, none⟩ = some (.bool false) := Lib.cell_of_heap hx 1
  have x2 : w1.cell? ⟨w.heap.size, 2, none⟩ = some (.int .i64 0) := Lib.cell_of_heap hx 2
  have x3 : w1.cell? ⟨w.heap.size, 3, none⟩ = some (.string ⟨#[]⟩) := Lib.cell_of_heap hx 3
  have y0 : w1.frozen? ⟨w.heap.size, 0, none⟩ = false := Lib.frozen_of_heap hx 0
  have y1 : w1.frozen? ⟨w.heap.size, 1, none⟩ = false := Lib.frozen_of_heap hx 1
  have y2 : w1.frozen? ⟨w.heap.size, 2, none⟩ = false := Lib.frozen_of_heap hx 2
  have y3 : w1.frozen? ⟨w.heap.size, 3, none⟩ = false := Lib.frozen_of_heap hx 3
  have HXX := hid_of hx
  have HB1 := hid_of (Base.bel HB.out b1 (Nat.le_refl _))
  clear b1 hx
  go_wp2_with fail
  obtain ⟨f0, f1, f2, f3⟩ := box4 HXX.out rfl (.int .i64 0) (.bool false) (.int .i64 0) (.string ⟨#[]⟩)
  refine ⟨rfl, .tuple #[.agg #[.int .i64 0, .bool false, .int .i64 0, .string ⟨#[]⟩], .int .i64 121], ?_, rfl, (((HB1.out.setCell (Nat.le_refl _) _).setCell (Nat.le_refl _) _).setCell (Nat.le_refl _) _).setCell (Nat.le_refl _) _⟩
  simp [results, Tryd.results5, go_sem, f0, f1, f2, f3]
set_option maxHeartbeats 4000000 in
set_option maxRecDepth 100000 in
theorem cs_true_may (s : ByteArray) (w : World) (n : Int) (h0 : 0 < s.size) (h1 : (s.toList == [45, 105, 110, 102]) = false) (h2 : (s.toList == [43, 105, 110, 102]) = false) (h3 : (s.toList == [105, 110, 102]) = false) (h4 : (s.toList == []) = false) (h40 : ((s[0].toNat : Int) == 40) = true)
    (HP : Hid (∀ V, Below w.heap.size w V → Calls Tryd.prog 20 #[.string (s.extract 1 s.size)] V fun x w' => x = .returned (.tuple #[.int .i64 n, .int .i64 0]) ∧ Below V.heap.size V w')) : Calls Tryd.prog 5 #[.string s] w fun z w' => z = (if decide (May n) then outB 0 true n ⟨#[]⟩ 0 else outB 0 false 0 ⟨#[]⟩ 121) ∧ Below w.heap.size w w' := by
  obtain ⟨V, hV⟩ : ∃ V, V = w.alloc zB := ⟨_, rfl⟩
  have bV : Below w.heap.size w V := by rw [hV]; exact bnew w _
  have H1 := hid_of (HP.out V bV)
  obtain ⟨t, ht⟩ : ∃ t, t = s.extract 1 s.size := ⟨_, rfl⟩
  have hsl := slice1 s h0
  rw [← ht] at hsl H1
  clear ht
  have H2 := hid_of (isScore_call n)
  obtain ⟨mb, hm⟩ : ∃ mb, mb = decide (May n) := ⟨_, rfl⟩
  rw [← hm] at H2
  rw [← hm]
  clear hm
  have HX : Hid (∀ W, Below V.heap.size V W → W.heap[w.heap.size]? = some (.cells #[.int .i64 0, .bool false, .int .i64 0, .string ⟨#[]⟩] 23 (0, 0))) := hid_of fun W hW => (hW.block _ (by rw [hV]; simp)).trans (by rw [hV]; exact heap_alloc_new w zB)
  have HB := hid_of bV
  have HV := hid_of hV
  clear hV bV HP
  unfold zB at *
  unfold outB
  go_enter Tryd.func5, Tryd.ntmps5
  go_wp2_with fail
  rw [← HV.out]
  refine H1.out.mono ?_
  rintro z w1 hw1
  obtain ⟨rfl, b1⟩ := hw1
  have hx := HX.out w1 b1
  have x0 : w1.cell? ⟨w.heap.size, 0, none⟩ = some (.int .i64 0) := Lib.cell_of_heap hx 0
  have x1 : w1.cell? ⟨w.heap.size, 1, none⟩ = some (.bool false) := Lib.cell_of_heap hx 1
  have x2 : w1.cell? ⟨w.heap.size, 2, none⟩ = some (.int .i64 0) := Lib.cell_of_heap hx 2
  have x3 : w1.cell? ⟨w.heap.size, 3, none⟩ = some (.string ⟨#[]⟩) := Lib.cell_of_heap hx 3
  have y0 : w1.frozen? ⟨w.heap.size, 0, none⟩ = false := Lib.frozen_of_heap hx 0
  have y1 : w1.frozen? ⟨w.heap.size, 1, none⟩ = false := Lib.frozen_of_heap hx 1
  have y2 : w1.frozen? ⟨w.heap.size, 2, none⟩ = false := Lib.frozen_of_heap hx 2
  have y3 : w1.frozen? ⟨w.heap.size, 3, none⟩ = false := Lib.frozen_of_heap hx 3
  have HXX := hid_of hx
  have HB1 := hid_of (Base.bel HB.out b1 (Nat.le_refl _))
  clear b1 hx
  go_wp2_with fail
  refine (H2.out w1).mono ?_
  rintro z w2 hw2
  obtain ⟨rfl, hww⟩ := hw2
  rw [hww]
  clear hww w2
  cases mb
  · go_wp2_with fail
    obtain ⟨f0, f1, f2, f3⟩ := box4 HXX.out rfl (.int .i64 0) (.bool false) (.int .i64 0) (.string ⟨#[]⟩)
    refine ⟨rfl, .tuple #[.agg #[.int .i64 0, .bool false, .int .i64 0, .string ⟨#[]⟩], .int .i64 121], ?_, rfl, (((HB1.out.setCell (Nat.le_refl _) _).setCell (Nat.le_refl _) _).setCell (Nat.le_refl _) _).setCell (Nat.le_refl _) _⟩
    simp [results, Tryd.results5, go_sem, f0, f1, f2, f3]
  · go_wp2_with fail
    obtain ⟨f0, f1, f2, f3⟩ := box4 HXX.out rfl (.int .i64 0) (.bool true) (.int .i64 n) (.string ⟨#[]⟩)
    refine ⟨rfl, .tuple #[.agg #[.int .i64 0, .bool true, .int .i64 n, .string ⟨#[]⟩], .int .i64 0], ?_, rfl, (((HB1.out.setCell (Nat.le_refl _) _).setCell (Nat.le_refl _) _).setCell (Nat.le_refl _) _).setCell (Nat.le_refl _) _⟩
    simp [results, Tryd.results5, go_sem, f0, f1, f2, f3]
set_option maxHeartbeats 4000000 in
set_option maxRecDepth 100000 in
theorem cs_false_err (s : ByteArray) (w : World) (n : Int) (h0 : 0 < s.size) (h1 : (s.toList == [45, 105, 110, 102]) = false) (h2 : (s.toList == [43, 105, 110, 102]) = false) (h3 : (s.toList == [105, 110, 102]) = false) (h4 : (s.toList == []) = false) (h40 : ((s[0].toNat : Int) == 40) = false)
    (HP : Hid (∀ V, Below w.heap.size w V → Calls Tryd.prog 20 #[.string s] V fun x w' => x = .returned (.tuple #[.int .i64 n, .int .i64 10]) ∧ Below V.heap.size V w')) : Calls Tryd.prog 5 #[.string s] w fun z w' => z = outB 0 false 0 ⟨#[]⟩ 121 ∧ Below w.heap.size w w' := by
  obtain ⟨V, hV⟩ : ∃ V, V = w.alloc zB := ⟨_, rfl⟩
  have bV : Below w.heap.size w V := by rw [hV]; exact bnew w _
  have H1 := hid_of (HP.out V bV)
  have HX : Hid (∀ W, Below V.heap.size V W → W.heap[w.heap.size]? = some (.cells #[.int .i64 0, .bool false, .int .i64 0, .string ⟨#[]⟩] 23 (0, 0))) := hid_of fun W hW => (hW.block _ (by rw [hV]; simp)).trans (by rw [hV]; exact heap_alloc_new w zB)
  have HB := hid_of bV
  have HV := hid_of hV
  clear hV bV HP
  unfold zB at *
  unfold outB
  go_enter Tryd.func5, Tryd.ntmps5
  go_wp2_with fail
  rw [← HV.out]
  refine H1.out.mono ?_
  rintro z w1 hw1
  obtain ⟨rfl, b1⟩ := hw1
  have hx := HX.out w1 b1
  have x0 : w1.cell? ⟨w.heap.size, 0, none⟩ = some (.int .i64 0) := Lib.cell_of_heap hx 0
  have x1 : w1.cell? ⟨w.heap.size, 1, none⟩ = some (.bool false) := Lib.cell_of_heap hx 1
  have x2 : w1.cell? ⟨w.heap.size, 2, none⟩ = some (.int .i64 0) := Lib.cell_of_heap hx 2
  have x3 : w1.cell? ⟨w.heap.size, 3, none⟩ = some (.string ⟨#[]⟩) := Lib.cell_of_heap hx 3
  have y0 : w1.frozen? ⟨w.heap.size, 0, none⟩ = false := Lib.frozen_of_heap hx 0
  have y1 : w1.frozen? ⟨w.heap.size, 1, none⟩ = false := Lib.frozen_of_heap hx 1
  have y2 : w1.frozen? ⟨w.heap.size, 2, none⟩ = false := Lib.frozen_of_heap hx 2
  have y3 : w1.frozen? ⟨w.heap.size, 3, none⟩ = false := Lib.frozen_of_heap hx 3
  have HXX := hid_of hx
  have HB1 := hid_of (Base.bel HB.out b1 (Nat.le_refl _))
  clear b1 hx
  go_wp2_with fail
  obtain ⟨f0, f1, f2, f3⟩ := box4 HXX.out rfl (.int .i64 0) (.bool false) (.int .i64 0) (.string ⟨#[]⟩)
  refine ⟨rfl, .tuple #[.agg #[.int .i64 0, .bool false, .int .i64 0, .string ⟨#[]⟩], .int .i64 121], ?_, rfl, (((HB1.out.setCell (Nat.le_refl _) _).setCell (Nat.le_refl _) _).setCell (Nat.le_refl _) _).setCell (Nat.le_refl _) _⟩
  simp [results, Tryd.results5, go_sem, f0, f1, f2, f3]
set_option maxHeartbeats 4000000 in
set_option maxRecDepth 100000 in
theorem cs_false_may (s : ByteArray) (w : World) (n : Int) (h0 : 0 < s.size) (h1 : (s.toList == [45, 105, 110, 102]) = false) (h2 : (s.toList == [43, 105, 110, 102]) = false) (h3 : (s.toList == [105, 110, 102]) = false) (h4 : (s.toList == []) = false) (h40 : ((s[0].toNat : Int) == 40) = false)
    (HP : Hid (∀ V, Below w.heap.size w V → Calls Tryd.prog 20 #[.string s] V fun x w' => x = .returned (.tuple #[.int .i64 n, .int .i64 0]) ∧ Below V.heap.size V w')) : Calls Tryd.prog 5 #[.string s] w fun z w' => z = (if decide (May n) then outB 0 false n ⟨#[]⟩ 0 else outB 0 false 0 ⟨#[]⟩ 121) ∧ Below w.heap.size w w' := by
  obtain ⟨V, hV⟩ : ∃ V, V = w.alloc zB := ⟨_, rfl⟩
  have bV : Below w.heap.size w V := by rw [hV]; exact bnew w _
  have H1 := hid_of (HP.out V bV)
  have H2 := hid_of (isScore_call n)
  obtain ⟨mb, hm⟩ : ∃ mb, mb = decide (May n) := ⟨_, rfl⟩
  rw [← hm] at H2
  rw [← hm]
  clear hm
  have HX : Hid (∀ W, Below V.heap.size V W → W.heap[w.heap.size]? = some (.cells #[.int .i64 0, .bool false, .int .i64 0, .string ⟨#[]⟩] 23 (0, 0))) := hid_of fun W hW => (hW.block _ (by rw [hV]; simp)).trans (by rw [hV]; exact heap_alloc_new w zB)
  have HB := hid_of bV
  have HV := hid_of hV
  clear hV bV HP
  unfold zB at *
  unfold outB
  go_enter Tryd.func5, Tryd.ntmps5
  go_wp2_with fail
  rw [← HV.out]
  refine H1.out.mono ?_
  rintro z w1 hw1
  obtain ⟨rfl, b1⟩ := hw1
  have hx := HX.out w1 b1
  have x0 : w1.cell? ⟨w.heap.size, 0, none⟩ = some (.int .i64 0) := Lib.cell_of_heap hx 0
  have x1 : w1.cell? ⟨w.heap.size, 1, none⟩ = some (.bool false) := Lib.cell_of_heap hx 1
  have x2 : w1.cell? ⟨w.heap.size, 2, none⟩ = some (.int .i64 0) := Lib.cell_of_heap hx 2
  have x3 : w1.cell? ⟨w.heap.size, 3, none⟩ = some (.string ⟨#[]⟩) := Lib.cell_of_heap hx 3
  have y0 : w1.frozen? ⟨w.heap.size, 0, none⟩ = false := Lib.frozen_of_heap hx 0
  have y1 : w1.frozen? ⟨w.heap.size, 1, none⟩ = false := Lib.frozen_of_heap hx 1
  have y2 : w1.frozen? ⟨w.heap.size, 2, none⟩ = false := Lib.frozen_of_heap hx 2
  have y3 : w1.frozen? ⟨w.heap.size, 3, none⟩ = false := Lib.frozen_of_heap hx 3
  have HXX := hid_of hx
  have HB1 := hid_of (Base.bel HB.out b1 (Nat.le_refl _))
  clear b1 hx
  go_wp2_with fail
  refine (H2.out w1).mono ?_
  rintro z w2 hw2
  obtain ⟨rfl, hww⟩ := hw2
  rw [hww]
  clear hww w2
  cases mb
  · go_wp2_with fail
    obtain ⟨f0, f1, f2, f3⟩ := box4 HXX.out rfl (.int .i64 0) (.bool false) (.int .i64 0) (.string ⟨#[]⟩)
    refine ⟨rfl, .tuple #[.agg #[.int .i64 0, .bool false, .int .i64 0, .string ⟨#[]⟩], .int .i64 121], ?_, rfl, (((HB1.out.setCell (Nat.le_refl _) _).setCell (Nat.le_refl _) _).setCell (Nat.le_refl _) _).setCell (Nat.le_refl _) _⟩
    simp [results, Tryd.results5, go_sem, f0, f1, f2, f3]
  · go_wp2_with fail
    obtain ⟨f0, f1, f2, f3⟩ := box4 HXX.out rfl (.int .i64 0) (.bool false) (.int .i64 n) (.string ⟨#[]⟩)
    refine ⟨rfl, .tuple #[.agg #[.int .i64 0, .bool false, .int .i64 n, .string ⟨#[]⟩], .int .i64 0], ?_, rfl, (((HB1.out.setCell (Nat.le_refl _) _).setCell (Nat.le_refl _) _).setCell (Nat.le_refl _) _).setCell (Nat.le_refl _) _⟩
    simp [results, Tryd.results5, go_sem, f0, f1, f2, f3]
set_option maxHeartbeats 2000000 in
set_option maxRecDepth 100000 in
theorem rs_minf (w : World) : Calls Tryd.prog 6 #[.string ⟨#[45, 105, 110, 102]⟩] w fun z w' => z = outB (-1) false 0 ⟨#[]⟩ 0 ∧ Below w.heap.size w w' := by
  unfold outB
  go_enter Tryd.func6, Tryd.ntmps6
  go_wp2_with fail
  refine ⟨rfl, .tuple #[.agg #[.int .i64 (-1), .bool false, .int .i64 0, .string ⟨#[]⟩], .int .i64 0], ?_, rfl, bnew w _⟩
  simp [results, Tryd.results6, go_sem]
set_option maxHeartbeats 2000000 in
set_option maxRecDepth 100000 in
theorem rs_pinf (w : World) : Calls Tryd.prog 6 #[.string ⟨#[43, 105, 110, 102]⟩] w fun z w' => z = outB 1 false 0 ⟨#[]⟩ 0 ∧ Below w.heap.size w w' := by
  unfold outB
  go_enter Tryd.func6, Tryd.ntmps6
  go_wp2_with fail
  refine ⟨rfl, .tuple #[.agg #[.int .i64 1, .bool false, .int .i64 0, .string ⟨#[]⟩], .int .i64 0], ?_, rfl, bnew w _⟩
  simp [results, Tryd.results6, go_sem]
set_option maxHeartbeats 2000000 in
set_option maxRecDepth 100000 in
theorem rs_inf (w : World) : Calls Tryd.prog 6 #[.string ⟨#[105, 110, 102]⟩] w fun z w' => z = outB 1 false 0 ⟨#[]⟩ 0 ∧ Below w.heap.size w w' := by
  unfold outB
  go_enter Tryd.func6, Tryd.ntmps6
  go_wp2_with fail
  refine ⟨rfl, .tuple #[.agg #[.int .i64 1, .bool false, .int .i64 0, .string ⟨#[]⟩], .int .i64 0], ?_, rfl, bnew w _⟩
  simp [results, Tryd.results6, go_sem]
set_option maxHeartbeats 4000000 in
set_option maxRecDepth 100000 in
theorem rs_true_err (s : ByteArray) (w : World) (n : Int) (h0 : 0 < s.size) (h1 : (s.toList == [45, 105, 110, 102]) = false) (h2 : (s.toList == [43, 105, 110, 102]) = false) (h3 : (s.toList == [105, 110, 102]) = false) (h4 : (s.toList == []) = false) (h40 : ((s[0].toNat : Int) == 40) = true)
    (HP : Hid (∀ V, Below w.heap.size w V → Calls Tryd.prog 22 #[.string (s.extract 1 s.size)] V fun x w' => x = .returned (.tuple #[.int .i64 n, .int .i64 10]) ∧ Below V.heap.size V w')) : Calls Tryd.prog 6 #[.string s] w fun z w' => z = outB 0 false 0 ⟨#[]⟩ 121 ∧ Below w.heap.size w w' := by
  obtain ⟨V, hV⟩ : ∃ V, V = w.alloc zB := ⟨_, rfl⟩
  have bV : Below w.heap.size w V := by rw [hV]; exact bnew w _
  have H1 := hid_of (HP.out V bV)
  obtain ⟨t, ht⟩ : ∃ t, t = s.extract 1 s.size := ⟨_, rfl⟩
  have hsl := slice1 s h0
  rw [← ht] at hsl H1
  clear ht
  have HX : Hid (∀ W, Below V.heap.size V W → W.heap[w.heap.size]? = some (.cells #[.int .i64 0, .bool false, .int .i64 0, .string ⟨#[]⟩] 23 (0, 0))) := hid_of fun W hW => (hW.block _ (by rw [hV]; simp)).trans (by rw [hV]; exact heap_alloc_new w zB)
  have HB := hid_of bV
  have HV := hid_of hV
  clear hV bV HP
  unfold zB at *
  unfold outB
  go_enter Tryd.func6, Tryd.ntmps6
  go_wp2_with fail
  rw [← HV.out]
  refine H1.out.mono ?_
  rintro z w1 hw1
  obtain ⟨rfl, b1⟩ := hw1
  have hx := HX.out w1 b1
  have x0 : w1.cell? ⟨w.heap.size, 0, none⟩ = some (.int .i64 0) := Lib.cell_of_heap hx 0
  have x1 : w1.cell? ⟨w.heap.size, 1, none⟩ = some (.bool false) := Lib.cell_of_heap hx 1
  have x2 : w1.cell? ⟨w.heap.size, 2, none⟩ = some (.int .i64 0) := Lib.cell_of_heap hx 2
  have x3 : w1.cell? ⟨w.heap.size, 3, none⟩ = some (.string ⟨#[]⟩) := Lib.cell_of_heap hx 3
  have y0 : w1.frozen? ⟨w.heap.size, 0, none⟩ = false := Lib.frozen_of_heap hx 0
  have y1 : w1.frozen? ⟨w.heap.size, 1, none⟩ = false := Lib.frozen_of_heap hx 1
  have y2 : w1.frozen? ⟨w.heap.size, 2, none⟩ = false := Lib.frozen_of_heap hx 2
  have y3 : w1.frozen? ⟨w.heap.size, 3, none⟩ = false := Lib.frozen_of_heap hx 3
  have HXX := hid_of hx
  have HB1 := hid_of (Base.bel HB.out b1 (Nat.le_refl _))
  clear b1 hx
  go_wp2_with fail
  obtain ⟨f0, f1, f2, f3⟩ := box4 HXX.out rfl (.int .i64 0) (.bool false) (.int .i64 0) (.string ⟨#[]⟩)
  refine ⟨rfl, .tuple #[.agg #[.int .i64 0, .bool false, .int .i64 0, .string ⟨#[]⟩], .int .i64 121], ?_, rfl, (((HB1.out.setCell (Nat.le_refl _) _).setCell (Nat.le_refl _) _).setCell (Nat.le_refl _) _).setCell (Nat.le_refl _) _⟩
  simp [results, Tryd.results6, go_sem, f0, f1, f2, f3]
set_option maxHeartbeats 4000000 in
set_option maxRecDepth 100000 in
theorem rs_true_may (s : ByteArray) (w : World) (n : Int) (h0 : 0 < s.size) (h1 : (s.toList == [45, 105, 110, 102]) = false) (h2 : (s.toList == [43, 105, 110, 102]) = false) (h3 : (s.toList == [105, 110, 102]) = false) (h4 : (s.toList == []) = false) (h40 : ((s[0].toNat : Int) == 40) = true)
    (HP : Hid (∀ V, Below w.heap.size w V → Calls Tryd.prog 22 #[.string (s.extract 1 s.size)] V fun x w' => x = .returned (.tuple #[.int .i64 n, .int .i64 0]) ∧ Below V.heap.size V w')) : Calls Tryd.prog 6 #[.string s] w fun z w' => z = (if decide (May n) then outB 0 true n ⟨#[]⟩ 0 else outB 0 false 0 ⟨#[]⟩ 121) ∧ Below w.heap.size w w' := by
  obtain ⟨V, hV⟩ : ∃ V, V = w.alloc zB := ⟨_, rfl⟩
  have bV : Below w.heap.size w V := by rw [hV]; exact bnew w _
  have H1 := hid_of (HP.out V bV)
  obtain ⟨t, ht⟩ : ∃ t, t = s.extract 1 s.size := ⟨_, rfl⟩
  have hsl := slice1 s h0
  rw [← ht] at hsl H1
  clear ht
  have H2 := hid_of (rmay_call n)
  obtain ⟨mb, hm⟩ : ∃ mb, mb = decide (May n) := ⟨_, rfl⟩
  rw [← hm] at H2
  rw [← hm]
  clear hm
  have HX : Hid (∀ W, Below V.heap.size V W → W.heap[w.heap.size]? = some (.cells #[.int .i64 0, .bool false, .int .i64 0, .string ⟨#[]⟩] 23 (0, 0))) := hid_of fun W hW => (hW.block _ (by rw [hV]; simp)).trans (by rw [hV]; exact heap_alloc_new w zB)
  have HB := hid_of bV
  have HV := hid_of hV
  clear hV bV HP
  unfold zB at *
  unfold outB
  go_enter Tryd.func6, Tryd.ntmps6
  go_wp2_with fail
  rw [← HV.out]
  refine H1.out.mono ?_
  rintro z w1 hw1
  obtain ⟨rfl, b1⟩ := hw1
  have hx := HX.out w1 b1
  have x0 : w1.cell? ⟨w.heap.size, 0, none⟩ = some (.int .i64 0) := Lib.cell_of_heap hx 0
  have x1 : w1.cell? ⟨w.heap.size, 1, none⟩ = some (.bool false) := Lib.cell_of_heap hx 1
  have x2 : w1.cell? ⟨w.heap.size, 2, none⟩ = some (.int .i64 0) := Lib.cell_of_heap hx 2
  have x3 : w1.cell? ⟨w.heap.size, 3, none⟩ = some (.string ⟨#[]⟩) := Lib.cell_of_heap hx 3
  have y0 : w1.frozen? ⟨w.heap.size, 0, none⟩ = false := Lib.frozen_of_heap hx 0
  have y1 : w1.frozen? ⟨w.heap.size, 1, none⟩ = false := Lib.frozen_of_heap hx 1
  have y2 : w1.frozen? ⟨w.heap.size, 2, none⟩ = false := Lib.frozen_of_heap hx 2
  have y3 : w1.frozen? ⟨w.heap.size, 3, none⟩ = false := Lib.frozen_of_heap hx 3
  have HXX := hid_of hx
  have HB1 := hid_of (Base.bel HB.out b1 (Nat.le_refl _))
  clear b1 hx
  go_wp2_with fail
  refine (H2.out w1).mono ?_
  rintro z w2 hw2
  obtain ⟨rfl, hww⟩ := hw2
  rw [hww]
  clear hww w2
  cases mb
  · go_wp2_with fail
    obtain ⟨f0, f1, f2, f3⟩ := box4 HXX.out rfl (.int .i64 0) (.bool false) (.int .i64 0) (.string ⟨#[]⟩)
    refine ⟨rfl, .tuple #[.agg #[.int .i64 0, .bool false, .int .i64 0, .string ⟨#[]⟩], .int .i64 121], ?_, rfl, (((HB1.out.setCell (Nat.le_refl _) _).setCell (Nat.le_refl _) _).setCell (Nat.le_refl _) _).setCell (Nat.le_refl _) _⟩
    simp [results, Tryd.results6, go_sem, f0, f1, f2, f3]
  · go_wp2_with fail
    obtain ⟨f0, f1, f2, f3⟩ := box4 HXX.out rfl (.int .i64 0) (.bool true) (.int .i64 n) (.string ⟨#[]⟩)
    refine ⟨rfl, .tuple #[.agg #[.int .i64 0, .bool true, .int .i64 n, .string ⟨#[]⟩], .int .i64 0], ?_, rfl, (((HB1.out.setCell (Nat.le_refl _) _).setCell (Nat.le_refl _) _).setCell (Nat.le_refl _) _).setCell (Nat.le_refl _) _⟩
    simp [results, Tryd.results6, go_sem, f0, f1, f2, f3]
set_option maxHeartbeats 4000000 in
set_option maxRecDepth 100000 in
theorem rs_false_err (s : ByteArray) (w : World) (n : Int) (h0 : 0 < s.size) (h1 : (s.toList == [45, 105, 110, 102]) = false) (h2 : (s.toList == [43, 105, 110, 102]) = false) (h3 : (s.toList == [105, 110, 102]) = false) (h4 : (s.toList == []) = false) (h40 : ((s[0].toNat : Int) == 40) = false)
    (HP : Hid (∀ V, Below w.heap.size w V → Calls Tryd.prog 22 #[.string s] V fun x w' => x = .returned (.tuple #[.int .i64 n, .int .i64 10]) ∧ Below V.heap.size V w')) : Calls Tryd.prog 6 #[.string s] w fun z w' => z = outB 0 false 0 ⟨#[]⟩ 121 ∧ Below w.heap.size w w' := by
  obtain ⟨V, hV⟩ : ∃ V, V = w.alloc zB := ⟨_, rfl⟩
  have bV : Below w.heap.size w V := by rw [hV]; exact bnew w _
  have H1 := hid_of (HP.out V bV)
  have HX : Hid (∀ W, Below V.heap.size V W → W.heap[w.heap.size]? = some (.cells #[.int .i64 0, .bool false, .int .i64 0, .string ⟨#[]⟩] 23 (0, 0))) := hid_of fun W hW => (hW.block _ (by rw [hV]; simp)).trans (by rw [hV]; exact heap_alloc_new w zB)
  have HB := hid_of bV
  have HV := hid_of hV
  clear hV bV HP
  unfold zB at *
  unfold outB
  go_enter Tryd.func6, Tryd.ntmps6
  go_wp2_with fail
  rw [← HV.out]
  refine H1.out.mono ?_
  rintro z w1 hw1
  obtain ⟨rfl, b1⟩ := hw1
  have hx := HX.out w1 b1
  have x0 : w1.cell? ⟨w.heap.size, 0, none⟩ = some (.int .i64 0) := Lib.cell_of_heap hx 0
  have x1 : w1.cell? ⟨w.heap.size, 1, none⟩ = some (.bool false) := Lib.cell_of_heap hx 1
  have x2 : w1.cell? ⟨w.heap.size, 2, none⟩ = some (.int .i64 0) := Lib.cell_of_heap hx 2
  have x3 : w1.cell? ⟨w.heap.size, 3, none⟩ = some (.string ⟨#[]⟩) := Lib.cell_of_heap hx 3
  have y0 : w1.frozen? ⟨w.heap.size, 0, none⟩ = false := Lib.frozen_of_heap hx 0
  have y1 : w1.frozen? ⟨w.heap.size, 1, none⟩ = false := Lib.frozen_of_heap hx 1
  have y2 : w1.frozen? ⟨w.heap.size, 2, none⟩ = false := Lib.frozen_of_heap hx 2
  have y3 : w1.frozen? ⟨w.heap.size, 3, none⟩ = false := Lib.frozen_of_heap hx 3
  have HXX := hid_of hx
  have HB1 := hid_of (Base.bel HB.out b1 (Nat.le_refl _))
  clear b1 hx
  go_wp2_with fail
  obtain ⟨f0, f1, f2, f3⟩ := box4 HXX.out rfl (.int .i64 0) (.bool false) (.int .i64 0) (.string ⟨#[]⟩)
  refine ⟨rfl, .tuple #[.agg #[.int .i64 0, .bool false, .int .i64 0, .string ⟨#[]⟩], .int .i64 121], ?_, rfl, (((HB1.out.setCell (Nat.le_refl _) _).setCell (Nat.le_refl _) _).setCell (Nat.le_refl _) _).setCell (Nat.le_refl _) _⟩
  simp [results, Tryd.results6, go_sem, f0, f1, f2, f3]
set_option maxHeartbeats 4000000 in
set_option maxRecDepth 100000 in
theorem rs_false_may (s : ByteArray) (w : World) (n : Int) (h0 : 0 < s.size) (h1 : (s.toList == [45, 105, 110, 102]) = false) (h2 : (s.toList == [43, 105, 110, 102]) = false) (h3 : (s.toList == [105, 110, 102]) = false) (h4 : (s.toList == []) = false) (h40 : ((s[0].toNat : Int) == 40) = false)
    (HP : Hid (∀ V, Below w.heap.size w V → Calls Tryd.prog 22 #[.string s] V fun x w' => x = .returned (.tuple #[.int .i64 n, .int .i64 0]) ∧ Below V.heap.size V w')) : Calls Tryd.prog 6 #[.string s] w fun z w' => z = (if decide (May n) then outB 0 false n ⟨#[]⟩ 0 else outB 0 false 0 ⟨#[]⟩ 121) ∧ Below w.heap.size w w' := by
  obtain ⟨V, hV⟩ : ∃ V, V = w.alloc zB := ⟨_, rfl⟩
  have bV : Below w.heap.size w V := by rw [hV]; exact bnew w _
  have H1 := hid_of (HP.out V bV)
  have H2 := hid_of (rmay_call n)
  obtain ⟨mb, hm⟩ : ∃ mb, mb = decide (May n) := ⟨_, rfl⟩
  rw [← hm] at H2
  rw [← hm]
  clear hm
  have HX : Hid (∀ W, Below V.heap.size V W → W.heap[w.heap.size]? = some (.cells #[.int .i64 0, .bool false, .int .i64 0, .string ⟨#[]⟩] 23 (0, 0))) := hid_of fun W hW => (hW.block _ (by rw [hV]; simp)).trans (by rw [hV]; exact heap_alloc_new w zB)
  have HB := hid_of bV
  have HV := hid_of hV
  clear hV bV HP
  unfold zB at *
  unfold outB
  go_enter Tryd.func6, Tryd.ntmps6
  go_wp2_with fail
  rw [← HV.out]
  refine H1.out.mono ?_
  rintro z w1 hw1
  obtain ⟨rfl, b1⟩ := hw1
  have hx := HX.out w1 b1
  have x0 : w1.cell? ⟨w.heap.size, 0, none⟩ = some (.int .i64 0) := Lib.cell_of_heap hx 0
  have x1 : w1.cell? ⟨w.heap.size, 1, none⟩ = some (.bool false) := Lib.cell_of_heap hx 1
  have x2 : w1.cell? ⟨w.heap.size, 2, none⟩ = some (.int .i64 0) := Lib.cell_of_heap hx 2
  have x3 : w1.cell? ⟨w.heap.size, 3, none⟩ = some (.string ⟨#[]⟩) := Lib.cell_of_heap hx 3
  have y0 : w1.frozen? ⟨w.heap.size, 0, none⟩ = false := Lib.frozen_of_heap hx 0
  have y1 : w1.frozen? ⟨w.heap.size, 1, none⟩ = false := Lib.frozen_of_heap hx 1
  have y2 : w1.frozen? ⟨w.heap.size, 2, none⟩ = false := Lib.frozen_of_heap hx 2
  have y3 : w1.frozen? ⟨w.heap.size, 3, none⟩ = false := Lib.frozen_of_heap hx 3
  have HXX := hid_of hx
  have HB1 := hid_of (Base.bel HB.out b1 (Nat.le_refl _))
  clear b1 hx
  go_wp2_with fail
  refine (H2.out w1).mono ?_
  rintro z w2 hw2
  obtain ⟨rfl, hww⟩ := hw2
  rw [hww]
  clear hww w2
  cases mb
  · go_wp2_with fail
    obtain ⟨f0, f1, f2, f3⟩ := box4 HXX.out rfl (.int .i64 0) (.bool false) (.int .i64 0) (.string ⟨#[]⟩)
    refine ⟨rfl, .tuple #[.agg #[.int .i64 0, .bool false, .int .i64 0, .string ⟨#[]⟩], .int .i64 121], ?_, rfl, (((HB1.out.setCell (Nat.le_refl _) _).setCell (Nat.le_refl _) _).setCell (Nat.le_refl _) _).setCell (Nat.le_refl _) _⟩
    simp [results, Tryd.results6, go_sem, f0, f1, f2, f3]
  · go_wp2_with fail
    obtain ⟨f0, f1, f2, f3⟩ := box4 HXX.out rfl (.int .i64 0) (.bool false) (.int .i64 n) (.string ⟨#[]⟩)
    refine ⟨rfl, .tuple #[.agg #[.int .i64 0, .bool false, .int .i64 n, .string ⟨#[]⟩], .int .i64 0], ?_, rfl, (((HB1.out.setCell (Nat.le_refl _) _).setCell (Nat.le_refl _) _).setCell (Nat.le_refl _) _).setCell (Nat.le_refl _) _⟩
    simp [results, Tryd.results6, go_sem, f0, f1, f2, f3]
end Go.Proofs.YtighoelipihifaaDoor.Texts
