/- A list that is none. -/
import Derived.Test.YtdmjfmojacnbeabPiece
import Derived.Test.YtdmjfmojacnbeabSelf
import Derived.Test.YtdmjfmojacnbeabPop
namespace Go.Proofs.Ytdmjfmojacnbeab.Nil
open Go.RowKit
open Go.Proofs.Ytdmjfmojacnbeab.Base
open Go.Proofs.Ytdmjfmojacnbeab.Held
open Go.Proofs.Ytdmjfmojacnbeab.Keep
set_option linter.unusedVariables false
set_option linter.unusedSimpArgs false
/-- a list of nothing, and nothing has turned below -/
def Em (w : World) (e : Ending) (w' : World) : Prop := ∃ a c, e = .returned (.slice a 0 c) ∧ Below w.heap.size w w'
theorem em_of {w0 w w' : World} {v : Value} (k : Below w0.heap.size w0 w) (n : NR w.heap.size w' v []) (b : Below w.heap.size w w') : Em w0 (.returned v) w' := by
  have b2 := k.trans (b.mono k.size)
  rcases n with ⟨rfl, _⟩ | ⟨g, c, xs, rfl, _⟩
  · exact ⟨none, 0, rfl, b2⟩
  · exact ⟨_, c, rfl, b2⟩
theorem len_nil (w : World) : Calls Try.prog 8 #[.pointer none] w fun e w' => e = .returned (.int .i64 0) ∧ w' = w := by
  have H := hid_of (held_nil w)
  go_enter Try.func8, Try.ntmps8
  go_wp2_with fail
  refine H.out.mono ?_
  rintro e w1 ⟨rfl, rfl⟩
  go_wp2_with fail
  go_ret
  exact ⟨rfl, rfl⟩
theorem pushFront_nil (v : Value) (w : World) : Calls Try.prog 4 #[.pointer none, v] w fun e w' => e = .returned (.tuple #[]) ∧ w' = w := by
  go_enter Try.func4, Try.ntmps4
  go_wp2
  refine bodyPost_ret (results_none rfl _ _ _) rfl ?_
  exact ⟨rfl, rfl⟩
theorem pushBack_nil (v : Value) (w : World) : Calls Try.prog 5 #[.pointer none, v] w fun e w' => e = .returned (.tuple #[]) ∧ w' = w := by
  go_enter Try.func5, Try.ntmps5
  go_wp2
  refine bodyPost_ret (results_none rfl _ _ _) rfl ?_
  exact ⟨rfl, rfl⟩
theorem keep_nil (x y : Int) (w : World) : Calls Try.prog 23 #[.pointer none, .int .i64 x, .int .i64 y] w fun e w' => e = .returned (.tuple #[]) ∧ w' = w := by
  go_enter Try.func23, Try.ntmps23
  go_wp2
  refine bodyPost_ret (results_none rfl _ _ _) rfl ?_
  exact ⟨rfl, rfl⟩
theorem list_nil (w : World) : Calls Try.prog 13 #[.pointer none] w (Em w) := by
  have H := hid_of (held_nil w)
  have HF := hid_of (fresh_call (w := w) (SL.nil (fun _ => True) w) (by simp))
  go_enter Try.func13, Try.ntmps13
  go_wp2_with fail
  refine H.out.mono ?_
  rintro e w1 ⟨rfl, rfl⟩
  go_wp2_with fail
  refine HF.out.mono ?_
  rintro e w2 ⟨v, rfl, n, b⟩
  have E := hid_of (em_of (Below.refl _ _) n b)
  clear n b
  go_wp2_with fail
  go_ret
  exact E.out
theorem place_nil (w : World) : Calls Try.prog 25 #[.pointer none, .int .i64 0] w fun e w' => e = .returned (.tuple #[.int .i64 0, .bool false]) ∧ w' = w := by
  have H := hid_of (len_nil w)
  go_enter Try.func25, Try.ntmps25
  go_wp2_with fail
  refine H.out.mono ?_
  rintro e w1 ⟨rfl, rfl⟩
  go_wp2_with fail
  go_ret2
  exact ⟨rfl, rfl⟩
/-- at 0 and any int: whatever the end, the piece is none -/
theorem piece_nil (y : Int) (hy : y = 0 ∨ y = -1) (w : World) : Calls Try.prog 24 #[.pointer none, .int .i64 0, .int .i64 y] w fun e w' => e = .returned (.tuple #[.int .i64 0, .int .i64 0]) ∧ w' = w := by
  have H := hid_of (len_nil w)
  rcases hy with rfl | rfl
  · go_enter Try.func24, Try.ntmps24
    go_wp2_with (first | (go_at_call 8; refine H.out.mono ?_; rintro e w1 ⟨rfl, hw⟩; rw [hw]; clear hw))
    go_ret2
    exact ⟨rfl, rfl⟩
  · go_enter Try.func24, Try.ntmps24
    go_wp2_with (first | (go_at_call 8; refine H.out.mono ?_; rintro e w1 ⟨rfl, hw⟩; rw [hw]; clear hw))
    go_ret2
    exact ⟨rfl, rfl⟩
theorem trim_nil (w : World) : Calls Try.prog 6 #[.pointer none, .int .i64 0, .int .i64 0] w fun e w' => e = .returned (.tuple #[]) ∧ w' = w := by
  have H := hid_of (piece_nil 0 (.inl rfl) w)
  have HK := hid_of (keep_nil 0 0 w)
  go_enter Try.func6, Try.ntmps6
  go_wp2_with fail
  refine H.out.mono ?_
  rintro e w1 ⟨rfl, rfl⟩
  go_wp2_with fail
  refine HK.out.mono ?_
  rintro e w2 ⟨rfl, rfl⟩
  go_wp2_with fail
  go_end0
  exact ⟨rfl, rfl⟩
theorem at_nil (w : World) : Calls Try.prog 7 #[.pointer none, .int .i64 0] w fun e w' => e = .returned (.tuple #[.int .i64 0, .bool false]) ∧ Below w.heap.size w w' := by
  have H := hid_of (place_nil w)
  have c0 : (w.alloc (.cells #[.int .i64 0] 3)).cell? ⟨w.heap.size, 0, none⟩ = some (.int .i64 0) := Lib.cell_of_heap (heap_alloc_new w _) 0
  have HB := hid_of ((Below.refl w.heap.size w).alloc (Nat.le_refl _) (.cells #[.int .i64 0] 3))
  go_enter Try.func7, Try.ntmps7
  go_wp2_with fail
  refine H.out.mono ?_
  rintro e w1 ⟨rfl, rfl⟩
  go_wp2_with fail
  go_ret2
  exact ⟨rfl, HB.out⟩
theorem put_nil (v : Int) (w : World) : Calls Try.prog 14 #[.pointer none, .int .i64 0, .int .i64 v] w fun e w' => e = .returned (.bool false) ∧ w' = w := by
  have H := hid_of (place_nil w)
  go_enter Try.func14, Try.ntmps14
  go_wp2_with fail
  refine H.out.mono ?_
  rintro e w1 ⟨rfl, rfl⟩
  go_wp2_with fail
  go_ret
  exact ⟨rfl, rfl⟩
theorem within_nil (w : World) : Calls Try.prog 27 #[.int .i64 1, .int .i64 0] w fun e w' => e = .returned (.int .i64 0) ∧ w' = w := within_call 1 0 w
theorem popFront_nil (w : World) : Calls Try.prog 9 #[.pointer none, .int .i64 1] w (Em w) := by
  have H := hid_of len_nil
  have HH := hid_of held_nil
  have HW := hid_of within_nil
  have HF := hid_of (fun W => fresh_call (w := W) (SL.nil (fun _ => True) W) (by simp))
  have HK := hid_of keep_nil
  go_enter Try.func9, Try.ntmps9
  go_wp2_with fail
  refine (H.out _).mono ?_
  rintro e w1 ⟨rfl, rfl⟩
  go_wp2_with fail
  refine (HW.out _).mono ?_
  rintro e w2 ⟨rfl, rfl⟩
  go_wp2_with fail
  refine (HH.out _).mono ?_
  rintro e w3 ⟨rfl, rfl⟩
  go_wp2_with fail
  refine (HF.out _).mono ?_
  rintro e w4 ⟨v, rfl, n, b⟩
  obtain ⟨a, c, hv, E⟩ := em_of (Below.refl _ _) n b
  cases hv
  have HE := hid_of E
  clear n b E
  go_wp2_with fail
  refine (H.out _).mono ?_
  rintro e w5 ⟨rfl, rfl⟩
  go_wp2_with fail
  refine (HK.out _ _ _).mono ?_
  rintro e w6 ⟨rfl, rfl⟩
  go_wp2_with fail
  go_ret
  exact ⟨_, _, rfl, HE.out⟩
theorem popBack_nil (w : World) : Calls Try.prog 10 #[.pointer none, .int .i64 1] w (Em w) := by
  have H := hid_of len_nil
  have HH := hid_of held_nil
  have HW := hid_of within_nil
  have HF := hid_of (fun W => fresh_call (w := W) (SL.nil (fun _ => True) W) (by simp))
  have HK := hid_of keep_nil
  go_enter Try.func10, Try.ntmps10
  go_wp2_with fail
  refine (H.out _).mono ?_
  rintro e w1 ⟨rfl, rfl⟩
  go_wp2_with fail
  refine (H.out _).mono ?_
  rintro e w1 ⟨rfl, rfl⟩
  go_wp2_with fail
  refine (HW.out _).mono ?_
  rintro e w2 ⟨rfl, rfl⟩
  go_wp2_with fail
  refine (HH.out _).mono ?_
  rintro e w3 ⟨rfl, rfl⟩
  go_wp2_with fail
  refine (HF.out _).mono ?_
  rintro e w4 ⟨v, rfl, n, b⟩
  have HR := hid_of (Pop.reverse_new n (by simp))
  have BB := hid_of b
  obtain ⟨a, c, hv, _⟩ := em_of (Below.refl _ _) n b
  cases hv
  clear n b
  go_wp2_with fail
  refine HR.out.mono ?_
  rintro e w5 ⟨rfl, _, f5⟩
  have E := hid_of (BB.out.trans (f5.below BB.out.size fun k e => e))
  clear f5
  go_wp2_with fail
  refine (HK.out _ _ _).mono ?_
  rintro e w6 ⟨rfl, rfl⟩
  go_wp2_with fail
  go_ret
  exact ⟨_, _, rfl, E.out⟩
theorem slice_nil (w : World) : Calls Try.prog 11 #[.pointer none, .int .i64 0, .int .i64 (-1)] w (Em w) := by
  have HP := hid_of (piece_nil (-1) (.inr rfl) w)
  have HH := hid_of held_nil
  have HF := hid_of (fun W => fresh_call (w := W) (SL.nil (fun _ => True) W) (by simp))
  go_enter Try.func11, Try.ntmps11
  go_wp2_with fail
  refine HP.out.mono ?_
  rintro e w1 ⟨rfl, rfl⟩
  go_wp2_with fail
  refine (HH.out _).mono ?_
  rintro e w3 ⟨rfl, rfl⟩
  go_wp2_with fail
  refine (HF.out _).mono ?_
  rintro e w4 ⟨v, rfl, n, b⟩
  obtain ⟨a, c, hv, E⟩ := em_of (Below.refl _ _) n b
  cases hv
  have HE := hid_of E
  clear n b E
  go_wp2_with fail
  go_ret
  exact ⟨_, _, rfl, HE.out⟩
theorem find_nil (w : World) (c : Int) (hc : c = 0 ∨ c = 1) : Calls Try.prog 12 #[.pointer none, .int .i64 1, .int .i64 1, .int .i64 c, .int .i64 0] w fun e w' => e = .returned (.slice none 0 0) ∧ w' = w := by
  have HS := hid_of (Self.self_call 1 w)
  have HH := hid_of (held_nil w)
  rcases hc with rfl | rfl
  all_goals
    go_enter Try.func12, Try.ntmps12
    go_wp2_with fail
    refine HS.out.mono ?_
    rintro e w1 ⟨rfl, rfl⟩
    go_wp2_with fail
    refine HH.out.mono ?_
    rintro e w2 ⟨rfl, rfl⟩
    go_wp2_with fail
    go_loopg [43, 13, 11] 0 (fun g s43 s13 s11 wx => s43 = .int .i64 0 ∧ s13 = .int .i64 0 ∧ s11 = .slice none 0 0 ∧ wx = w2)
    case atStart => exact ⟨rfl, rfl, rfl, rfl⟩
    case round =>
      obtain ⟨rfl, rfl, rfl, rfl⟩ := hrel
      go_wp2_with fail
      go_ret
      exact ⟨rfl, rfl⟩
theorem remove_nil (w : World) : Calls Try.prog 15 #[.pointer none, .int .i64 0, .int .i64 1] w fun e w' => e = .returned (.int .i64 0) ∧ w' = w := by
  have H := hid_of (find_nil w 0 (.inl rfl))
  go_enter Try.func15, Try.ntmps15
  go_wp2_with fail
  refine H.out.mono ?_
  rintro e w1 ⟨rfl, rfl⟩
  go_wp2_with fail
  go_ret
  exact ⟨rfl, rfl⟩
theorem insert_nil (w : World) : Calls Try.prog 16 #[.pointer none, .bool true, .int .i64 1, .int .i64 1] w fun e w' => e = .returned (.int .i64 (-1)) ∧ w' = w := by
  have H := hid_of (find_nil w 1 (.inr rfl))
  go_enter Try.func16, Try.ntmps16
  go_wp2_with fail
  refine H.out.mono ?_
  rintro e w1 ⟨rfl, rfl⟩
  go_wp2_with fail
  go_ret
  exact ⟨rfl, rfl⟩
theorem sall_call (a : Option Addr) (n c : Nat) (w : World) : Calls Try.prog 33 #[.slice a n c] w fun e w' => e = .returned (.func (.func 39) #[] #[.pointer (some ⟨w.heap.size, 0, none⟩)]) ∧ w' = w.alloc (.cells #[.slice a n c] 22) := by
  go_enter Try.func33, Try.ntmps33
  go_wp2_with fail
  go_ret
  exact ⟨rfl, rfl⟩
theorem all_nil (w : World) : Calls Try.prog 17 #[.pointer none] w fun e w' => ∃ B a c, e = .returned (.func (.func 39) #[] #[.pointer (some ⟨B, 0, none⟩)]) ∧ w.heap.size ≤ B ∧ w'.heap[B]? = some (.cells #[.slice a 0 c] 22 (0, 0)) ∧ Below w.heap.size w w' := by
  have H := hid_of (list_nil w)
  go_enter Try.func17, Try.ntmps17
  go_wp2_with fail
  refine H.out.mono ?_
  rintro e w1 ⟨a, c, rfl, b1⟩
  have B1 := hid_of b1
  have HA := hid_of (sall_call a 0 c w1)
  clear b1
  go_wp2_with fail
  refine HA.out.mono ?_
  rintro e w2 ⟨rfl, rfl⟩
  go_wp2_with fail
  go_ret
  exact ⟨_, _, _, rfl, B1.out.size, heap_alloc_new w1 _, B1.out.alloc B1.out.size _⟩
end Go.Proofs.Ytdmjfmojacnbeab.Nil
