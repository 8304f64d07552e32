/- A dict's small calls: Len, Get, Set, Drop. -/
import Derived.Test.YtolihcgpnoacaaaDoorBase
namespace Go.Proofs.YtolihcgpnoacaaaDoor.Small
open Go.RowKit Go.Maps
open Go.Proofs.YtolihcgpnoacaaaDoor.DictMath
open Go.Proofs.YtolihcgpnoacaaaDoor.Base
set_option linter.unusedVariables false

theorem eqlSome (m : Nat) (w : World) : (binOp .eql 59 (.map (some m)) (.map none)).run Tryd.prog w = .ok (.bool false) w := by kernel_rfl
set_option maxRecDepth 100000 in
theorem len_nil (w : World) : Calls Tryd.prog 23 #[.pointer none] w fun e w' => e = .returned (.int .i64 0) ∧ w' = w := by
  go_enter Tryd.func23, Tryd.ntmps23
  go_wp2
  go_ret
  exact ⟨rfl, rfl⟩
set_option maxRecDepth 100000 in
theorem len_call (b m : Nat) (l : FL) (w : World) (h : DK b m l w) : Calls Tryd.prog 23 #[ptr b] w fun e w' => e = .returned (.int .i64 (l.length : Int)) ∧ w' = w := by
  have c0 := h.cell
  have hl := h.map.len Tryd.underlying59
  rw [size_D] at hl
  clear h
  unfold ptr
  go_enter Tryd.func23, Tryd.ntmps23
  go_wp2
  go_ret
  exact ⟨rfl, rfl⟩
set_option maxRecDepth 100000 in
theorem get_nil (s : ByteArray) (w : World) : Calls Tryd.prog 21 #[.pointer none, .string s] w fun e w' => e = .returned (.tuple #[.string ⟨#[]⟩, .bool false]) ∧ w' = w := by
  go_enter Tryd.func21, Tryd.ntmps21
  go_wp2
  go_ret2
  exact ⟨rfl, rfl⟩
set_option maxRecDepth 100000 in
theorem get_call (b m : Nat) (l : FL) (s : ByteArray) (w : World) (h : DK b m l w) (hs : s.size ≤ 140737488355328) : Calls Tryd.prog 21 #[ptr b, .string s] w fun e w' => e = .returned (.tuple #[.string (valS l (bs s)), .bool (ok l (bs s))]) ∧ Below w.heap.size w w' := by
  have c0 := h.cell
  have hl := look_run h.map s hs
  clear h
  unfold ptr
  go_enter Tryd.func21, Tryd.ntmps21
  go_wp2
  go_ret2
  exact ⟨rfl, (Below.refl _ w).alloc (Nat.le_refl _) _⟩
set_option maxRecDepth 100000 in
theorem set_nil (s t : ByteArray) (w : World) : Calls Tryd.prog 12 #[.pointer none, .string s, .string t] w fun e w' => e = .returned (.bool false) ∧ w' = w := by
  go_enter Tryd.func12, Tryd.ntmps12
  go_wp2
  go_ret
  exact ⟨rfl, rfl⟩
set_option maxHeartbeats 1000000 in
set_option maxRecDepth 100000 in
theorem set_call (b m : Nat) (l : FL) (s t : ByteArray) (w : World) (h : DK b m l w) (hs : s.size ≤ 140737488355328) (ht : t.size ≤ 140737488355328) (hn : l.length < 140737488355328) : Calls Tryd.prog 12 #[ptr b, .string s, .string t] w fun e w' => e = .returned (.bool (!ok l (bs s))) ∧ DK b m (withL l (bs s) (bs t)) w' ∧ Mv m w w' := by
  have c0 := h.cell
  have hl := look_run h.map s hs
  have h1 := h.alloc (.cells #[.string (valS l (bs s))] 63)
  obtain ⟨w1, hu, hown, hturn⟩ := store_run h1.map hn s t hs
  have c1 : (w.alloc (.cells #[.string (valS l (bs s))] 63)).cell? ⟨b, 0, none⟩ = some (.map (some m)) := h1.cell
  have b1 : Below w.heap.size w (w.alloc (.cells #[.string (valS l (bs s))] 63)) := (Below.refl _ w).alloc (Nat.le_refl _) _
  have mv := (Mv.of_below b1 (owns_map h.map)).trans (Mv.of_turned hturn)
  have HD := hid_of (show DK b m (withL l (bs s) (bs t)) w1 from ⟨mv.blk h.blk, hown, with_ris h.ris _ _, fun p hp => by
    rcases with_mem hp with rfl | hp
    · rw [len_bs, len_bs]; exact ⟨hs, ht⟩
    · exact h.len p hp⟩)
  have HM := hid_of mv
  have eqs := eqlSome m w
  clear h h1 hown hturn b1 mv
  unfold ptr
  go_enter Tryd.func12, Tryd.ntmps12
  go_wp2
  go_ret
  exact ⟨rfl, HD.out, HM.out⟩
set_option maxRecDepth 100000 in
theorem drop_nil (s : ByteArray) (w : World) : Calls Tryd.prog 14 #[.pointer none, .string s] w fun e w' => e = .returned (.bool false) ∧ w' = w := by
  go_enter Tryd.func14, Tryd.ntmps14
  go_wp2
  go_ret
  exact ⟨rfl, rfl⟩
set_option maxHeartbeats 1000000 in
set_option maxRecDepth 100000 in
theorem drop_call (b m : Nat) (l : FL) (s : ByteArray) (w : World) (h : DK b m l w) (hs : s.size ≤ 140737488355328) : Calls Tryd.prog 14 #[ptr b, .string s] w fun e w' => e = .returned (.bool (ok l (bs s))) ∧ DK b m (wout l (bs s)) w' ∧ Mv m w w' := by
  have c0 := h.cell
  have hl := look_run h.map s hs
  have h1 := h.alloc (.cells #[.string (valS l (bs s))] 63)
  obtain ⟨w1, hu, hown, hturn⟩ := drop_run h1.map s hs 0
  have c1 : (w.alloc (.cells #[.string (valS l (bs s))] 63)).cell? ⟨b, 0, none⟩ = some (.map (some m)) := h1.cell
  have b1 : Below w.heap.size w (w.alloc (.cells #[.string (valS l (bs s))] 63)) := (Below.refl _ w).alloc (Nat.le_refl _) _
  have mv := (Mv.of_below b1 (owns_map h.map)).trans (Mv.of_turned hturn)
  have HD := hid_of (show DK b m (wout l (bs s)) w1 from ⟨mv.blk h.blk, hown, wout_ris h.ris _, fun p hp => h.len p (wout_mem hp)⟩)
  have HM := hid_of mv
  clear h h1 hown hturn b1 mv
  unfold ptr
  go_enter Tryd.func14, Tryd.ntmps14
  go_wp2
  go_ret
  exact ⟨rfl, HD.out, HM.out⟩
end Go.Proofs.YtolihcgpnoacaaaDoor.Small
