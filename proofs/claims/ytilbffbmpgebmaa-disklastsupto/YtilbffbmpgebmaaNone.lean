/- A disk that is none; the names that a disk tells; the law's small helpers. -/
import Derived.Test.YtilbffbmpgebmaaSwaps
import Derived.Maps.AppendAt
namespace Go.Proofs.Ytilbffbmpgebmaa.None
open Go.RowKit Go.Maps Go.Sort
open Go.Proofs.Ytilbffbmpgebmaa.DiskMath
open Go.Proofs.Ytilbffbmpgebmaa.Base
open Go.Proofs.Ytilbffbmpgebmaa.Small
open Go.Proofs.Ytilbffbmpgebmaa.Find
open Go.Proofs.Ytilbffbmpgebmaa.File2
open Go.Proofs.Ytilbffbmpgebmaa.Crash
open Go.Proofs.Ytilbffbmpgebmaa.Swaps
set_option linter.unusedVariables false

set_option maxRecDepth 100000 in
theorem begin_nil (s : ByteArray) (w : World) : Calls Try.prog 51 #[.pointer none, .string s] w fun e w' => e = .returned (.tuple #[.pointer none, .int .i64 53]) ∧ Below w.heap.size w w' := by
  have H1 := hid_of find_nil
  go_enter Try.func51, Try.ntmps51
  go_wp2_with fail
  refine (H1.out _ _).mono ?_
  rintro e w1 ⟨rfl, b1⟩
  go_wp2_with fail
  go_ret2
  exact ⟨rfl, b1⟩
set_option maxRecDepth 100000 in
theorem append_nil (s t : ByteArray) (w : World) : Calls Try.prog 17 #[.pointer none, .string s, .string t] w fun e w' => e = .returned (.tuple #[.int .i64 0, .int .i64 53]) ∧ Below w.heap.size w w' := by
  have H1 := hid_of find_nil
  go_enter Try.func17, Try.ntmps17
  go_wp2_with fail
  refine (H1.out _ _).mono ?_
  rintro e w1 ⟨rfl, b1⟩
  go_wp2_with fail
  go_ret2
  exact ⟨rfl, b1⟩
set_option maxRecDepth 100000 in
theorem read_nil (s : ByteArray) (w : World) : Calls Try.prog 15 #[.pointer none, .string s] w fun e w' => e = .returned (.tuple #[.string ⟨#[]⟩, .int .i64 53]) ∧ Below w.heap.size w w' := by
  have H1 := hid_of find_nil
  go_enter Try.func15, Try.ntmps15
  go_wp2_with fail
  refine (H1.out _ _).mono ?_
  rintro e w1 ⟨rfl, b1⟩
  go_wp2_with fail
  go_ret2
  exact ⟨rfl, b1⟩
set_option maxRecDepth 100000 in
theorem synced_nil (s : ByteArray) (w : World) : Calls Try.prog 16 #[.pointer none, .string s] w fun e w' => e = .returned (.tuple #[.int .i64 0, .int .i64 53]) ∧ Below w.heap.size w w' := by
  have H1 := hid_of find_nil
  go_enter Try.func16, Try.ntmps16
  go_wp2_with fail
  refine (H1.out _ _).mono ?_
  rintro e w1 ⟨rfl, b1⟩
  go_wp2_with fail
  go_ret2
  exact ⟨rfl, b1⟩
set_option maxRecDepth 100000 in
theorem create_nil (s : ByteArray) (w : World) : Calls Try.prog 26 #[.pointer none, .string s] w fun e w' => e = .returned (.int .i64 53) ∧ Below w.heap.size w w' := by
  have H1 := hid_of find_nil
  go_enter Try.func26, Try.ntmps26
  go_wp2_with fail
  refine (H1.out _ _).mono ?_
  rintro e w1 ⟨rfl, b1⟩
  go_wp2_with fail
  go_ret
  exact ⟨rfl, b1⟩
set_option maxRecDepth 100000 in
theorem trunc_nil (s : ByteArray) (n : Int) (w : World) : Calls Try.prog 29 #[.pointer none, .string s, .int .i64 n] w fun e w' => e = .returned (.int .i64 53) ∧ Below w.heap.size w w' := by
  have H1 := hid_of begin_nil
  go_enter Try.func29, Try.ntmps29
  go_wp2_with fail
  refine (H1.out _ _).mono ?_
  rintro e w1 ⟨rfl, b1⟩
  go_wp2_with fail
  go_ret
  exact ⟨rfl, b1⟩
set_option maxRecDepth 100000 in
theorem sync_nil (s : ByteArray) (w : World) : Calls Try.prog 18 #[.pointer none, .string s] w fun e w' => e = .returned (.int .i64 53) ∧ Below w.heap.size w w' := by
  have H1 := hid_of begin_nil
  go_enter Try.func18, Try.ntmps18
  go_wp2_with fail
  refine (H1.out _ _).mono ?_
  rintro e w1 ⟨rfl, b1⟩
  go_wp2_with fail
  go_ret
  exact ⟨rfl, b1⟩
set_option maxRecDepth 100000 in
theorem remove_nil (s : ByteArray) (w : World) : Calls Try.prog 31 #[.pointer none, .string s] w fun e w' => e = .returned (.int .i64 53) ∧ Below w.heap.size w w' := by
  have H1 := hid_of begin_nil
  go_enter Try.func31, Try.ntmps31
  go_wp2_with fail
  refine (H1.out _ _).mono ?_
  rintro e w1 ⟨rfl, b1⟩
  go_wp2_with fail
  go_ret
  exact ⟨rfl, b1⟩
set_option maxRecDepth 100000 in
theorem rename_nil (s t : ByteArray) (w : World) : Calls Try.prog 30 #[.pointer none, .string s, .string t] w fun e w' => e = .returned (.int .i64 53) ∧ Below w.heap.size w w' := by
  have H1 := hid_of refuse_nil
  go_enter Try.func30, Try.ntmps30
  go_wp2_with fail
  refine (H1.out _ _).mono ?_
  rintro e w1 ⟨rfl, rfl⟩
  go_wp2_with fail
  go_ret
  exact ⟨rfl, (Below.refl _ w).alloc (Nat.le_refl _) _⟩
set_option maxRecDepth 100000 in
theorem syncNames_nil (w : World) : Calls Try.prog 27 #[.pointer none] w fun e w' => e = .returned (.int .i64 53) ∧ w' = w := by
  have H1 := hid_of refuse_nil
  go_enter Try.func27, Try.ntmps27
  go_wp2_with fail
  refine (H1.out _ _).mono ?_
  rintro e w1 ⟨rfl, rfl⟩
  go_wp2_with fail
  go_ret
  exact ⟨rfl, rfl⟩
set_option maxRecDepth 100000 in
theorem plan_nil (v : Value) (w : World) : Calls Try.prog 22 #[.pointer none, v] w fun e w' => e = .returned (.int .i64 53) ∧ w' = w := by
  go_enter Try.func22, Try.ntmps22
  go_wp2_with fail
  go_ret
  exact ⟨rfl, rfl⟩
set_option maxRecDepth 100000 in
theorem down_nil (w : World) : Calls Try.prog 24 #[.pointer none] w fun e w' => e = .returned (.bool false) ∧ w' = w := by
  go_enter Try.func24, Try.ntmps24
  go_wp2_with fail
  go_ret
  exact ⟨rfl, rfl⟩
set_option maxRecDepth 100000 in
theorem steps_nil (w : World) : Calls Try.prog 25 #[.pointer none] w fun e w' => e = .returned (.int .i64 0) ∧ w' = w := by
  go_enter Try.func25, Try.ntmps25
  go_wp2_with fail
  go_ret
  exact ⟨rfl, rfl⟩
set_option maxRecDepth 100000 in
theorem names_nil (w : World) : Calls Try.prog 14 #[.pointer none] w fun e w' => e = .returned (.slice none 0 0) ∧ w' = w := by
  have H1 := hid_of refuse_nil
  go_enter Try.func14, Try.ntmps14
  go_wp2_with fail
  refine (H1.out _ _).mono ?_
  rintro e w1 ⟨rfl, rfl⟩
  go_wp2_with fail
  go_ret
  exact ⟨rfl, rfl⟩
set_option maxRecDepth 100000 in
theorem lasting_nil (w : World) : Calls Try.prog 20 #[.pointer none] w fun e w' => e = .returned (.slice none 0 0) ∧ w' = w := by
  have H1 := hid_of refuse_nil
  go_enter Try.func20, Try.ntmps20
  go_wp2_with fail
  refine (H1.out _ _).mono ?_
  rintro e w1 ⟨rfl, rfl⟩
  go_wp2_with fail
  go_ret
  exact ⟨rfl, rfl⟩
/- the names of a disk that is not down -/
set_option maxHeartbeats 1000000 in
set_option maxRecDepth 100000 in
theorem names_call (base b : Nat) (y : Lay) (d : Dk) (w : World) (h : DK base b y d w) (hd : d.down = false) (h40 : d.steps < 1099511627776) :
    Calls Try.prog 14 #[ptr b] w fun e w' => ∃ (g cap : Nat), e = .returned (.slice (some ⟨g, 0, none⟩) d.names.length cap) ∧ w'.ownsRow w.heap.size 9 1 (.slice (some ⟨g, 0, none⟩) d.names.length cap) d.names.length ((keys d.names).map encStr) ∧ Below w.heap.size w w' := by
  have H1 := hid_of (refuse_any base b y d w h (.slice none 0 0) false (Try.slices_Contains_string_empty none 0 ⟨#[]⟩ w))
  rw [hd, if_neg (by decide), if_neg (by decide)] at H1
  have HR := hid_of (rising_call y.bn _ _ _ w h.nm h.ok.names (Nat.lt_of_le_of_lt h.ok.nlen h40))
  have c0 : w.cell? ⟨b, 0, none⟩ = some (.map (some y.bn)) := h.cell 0
  clear h hd h40
  unfold ptr at H1 ⊢
  go_enter Try.func14, Try.ntmps14
  go_wp2_with fail
  refine H1.out.mono ?_
  rintro e w1 ⟨rfl, rfl⟩
  go_wp2_with fail
  refine HR.out.mono ?_
  rintro e w2 ⟨g, cap, rfl, hr, hb⟩
  have HX := hid_of (And.intro hr hb)
  clear hr hb
  go_wp2_with fail
  go_ret
  exact ⟨g, cap, rfl, HX.out.1, HX.out.2⟩
set_option maxHeartbeats 1000000 in
set_option maxRecDepth 100000 in
theorem lasting_call (base b : Nat) (y : Lay) (d : Dk) (w : World) (h : DK base b y d w) (hd : d.down = false) (h40 : d.steps < 1099511627776) :
    Calls Try.prog 20 #[ptr b] w fun e w' => ∃ (g cap : Nat), e = .returned (.slice (some ⟨g, 0, none⟩) d.last.length cap) ∧ w'.ownsRow w.heap.size 9 1 (.slice (some ⟨g, 0, none⟩) d.last.length cap) d.last.length ((keys d.last).map encStr) ∧ Below w.heap.size w w' := by
  have H1 := hid_of (refuse_any base b y d w h (.slice none 0 0) false (Try.slices_Contains_string_empty none 0 ⟨#[]⟩ w))
  rw [hd, if_neg (by decide), if_neg (by decide)] at H1
  have HR := hid_of (rising_call y.bl _ _ _ w h.ls h.ok.last (Nat.lt_of_le_of_lt (Nat.le_trans (Nat.le_add_right _ _) h.ok.llen) h40))
  have c1 : w.cell? ⟨b, 1, none⟩ = some (.map (some y.bl)) := h.cell 1
  clear h hd h40
  unfold ptr at H1 ⊢
  go_enter Try.func20, Try.ntmps20
  go_wp2_with fail
  refine H1.out.mono ?_
  rintro e w1 ⟨rfl, rfl⟩
  go_wp2_with fail
  refine HR.out.mono ?_
  rintro e w2 ⟨g, cap, rfl, hr, hb⟩
  have HX := hid_of (And.intro hr hb)
  clear hr hb
  go_wp2_with fail
  go_ret
  exact ⟨g, cap, rfl, HX.out.1, HX.out.2⟩
end Go.Proofs.Ytilbffbmpgebmaa.None
