/- Texts cut and asked: as equations. -/
import Derived.Test.YtdggpldmkeoeeaaDoorRows
import Derived.Test.YtdggpldmkeoeeaaDoorRepMath
import Derived.WalkKit
import Derived.Below
namespace Go.Proofs.YtdggpldmkeoeeaaDoor.Cut
open Go.RowKit
open Go.Proofs.YtdggpldmkeoeeaaDoor.RepMath
set_option linter.unusedVariables false
theorem hid_of {p : Prop} (h : p) : Hid p := h
theorem below_go {a b c : World} (h : Below a.heap.size a b) (k : Below b.heap.size b c) : Below a.heap.size a c := h.trans (k.mono h.size)
theorem bel {B : Nat} {a b c : World} (h : Below B a b) (k : Below b.heap.size b c) (hB : B ≤ a.heap.size) : Below B a c := h.trans (k.mono (Nat.le_trans hB h.size))
theorem slice_to (s : ByteArray) (n : Nat) (x : Int) (hx : x = (n : Int)) (h : n ≤ s.size) : ∃ t : ByteArray, bs t = (bs s).take n ∧ t.size = n ∧ ∀ w, (Instr.slice 9 (.string s) none (some (.int .i64 x)) none).run Tryd.prog w = .ok (.string t) w := by
  subst hx
  have e : bs (s.extract 0 n) = (bs s).take n := by unfold bs; simp [List.extract_eq_take_drop]
  refine ⟨s.extract 0 n, e, ?_, fun w => ?_⟩
  · rw [← len_bs, e, List.length_take, len_bs]; omega
  · rw [run_slice_string_to_if (P := Tryd.prog) (w := w) 9 s .i64 (n : Int) Tryd.underlying9, if_pos ⟨by omega, by omega⟩]
    rfl
theorem slice_from (s : ByteArray) (n : Nat) (x : Int) (hx : x = (n : Int)) (h : n ≤ s.size) : ∃ t : ByteArray, bs t = (bs s).drop n ∧ t.size = s.size - n ∧ ∀ w, (Instr.slice 9 (.string s) (some (.int .i64 x)) none none).run Tryd.prog w = .ok (.string t) w := by
  subst hx
  have e : bs (s.extract n s.size) = (bs s).drop n := by
    have h1 : (bs s).length = s.size := len_bs s
    have h2 : bs (s.extract n s.size) = ((bs s).drop n).take (s.size - n) := by unfold bs; simp [List.extract_eq_take_drop]
    rw [h2, List.take_of_length_le (by rw [List.length_drop, h1]; omega)]
  refine ⟨s.extract n s.size, e, ?_, fun w => ?_⟩
  · rw [← len_bs, e, List.length_drop, len_bs]
  · rw [run_slice_string_from_if (P := Tryd.prog) (w := w) 9 s .i64 (n : Int) Tryd.underlying9, if_pos ⟨by omega, by omega⟩]
    rfl
end Go.Proofs.YtdggpldmkeoeeaaDoor.Cut
