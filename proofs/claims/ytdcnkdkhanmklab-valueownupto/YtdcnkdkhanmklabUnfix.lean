/- The contracts of num.Unfix and of the document's own Unfix. -/
import Derived.Test.YtdcnkdkhanmklabRows
import Derived.Test.YtdcnkdkhanmklabBytesMath
import Derived.WalkKit
import Derived.Below
namespace Go.Proofs.Ytdcnkdkhanmklab.Unfix
open Go.RowKit
open Go.Proofs.Ytdcnkdkhanmklab.BytesMath

theorem ret_ui {a b c d : Int} (h1 : a = b) (h2 : c = d) : Ending.returned (.tuple #[.int .u64 a, .int .i64 c]) = .returned (.tuple #[.int .u64 b, .int .i64 d]) := by rw [h1, h2]
theorem val_u {a b : Int} (h : a = b) : Value.int .u64 a = .int .u64 b := by rw [h]
theorem val_i {a b : Int} (h : a = b) : Value.int .i64 a = .int .i64 b := by rw [h]

set_option maxHeartbeats 400000 in
theorem unfix_ok (s : ByteArray) (w : World) (h1 : 1 ≤ s.size) (h8 : s.size ≤ 8) :
    Calls Try.prog 36 #[.string s] w fun e w' => e = .returned (.tuple #[.int .u64 (leN s.data.toList), .int .i64 0]) ∧ w' = w := by
  go_enter Try.func36, Try.ntmps36
  go_wp2
  go_loop [4, 16] (fun n i => ∃ k : Nat, k ≤ s.size ∧ i = .int .i64 k ∧ n = .int .u64 (leN (s.data.toList.take k))) (fun _ i => s.size - (intOf i).toNat)
  case atStart => exact ⟨0, Nat.zero_le _, rfl, rfl⟩
  case round =>
    obtain ⟨k, hk, rfl, rfl⟩ := hrel
    by_cases hlt : k < s.size
    · go_wp2
      exact ⟨⟨k + 1, hlt, val_i (by omega), val_u (unfix_step s k hlt h8)⟩, by simp [intOf]; omega⟩
    · go_wp2
      go_ret2
      exact ⟨ret_ui (by rw [take_all s k (by omega)]) rfl, rfl⟩
set_option maxHeartbeats 400000 in
theorem unfix_no (s : ByteArray) (w : World) (h : s.size < 1 ∨ 8 < s.size) :
    Calls Try.prog 36 #[.string s] w fun e w' => e = .returned (.tuple #[.int .u64 0, .int .i64 12]) ∧ w' = w := by
  rcases h with h | h
  all_goals
    go_enter Try.func36, Try.ntmps36
    go_wp2
    go_ret2
    exact ⟨rfl, rfl⟩
theorem unfB_no {s : ByteArray} (h : unfB s = false) : s.size < 1 ∨ 8 < s.size := by simp [unfB] at h; omega
theorem unfB_ok {s : ByteArray} (h : unfB s = true) : 1 ≤ s.size ∧ s.size ≤ 8 := by simpa [unfB] using h
theorem unfix_any (s : ByteArray) (w : World) :
    Calls Try.prog 36 #[.string s] w fun e w' => e = .returned (.tuple #[.int .u64 (unfV s), .int .i64 (unfE s)]) ∧ w' = w := by
  unfold unfV unfE
  cases h : unfB s
  · exact unfix_no s w (unfB_no h)
  · exact unfix_ok s w (unfB_ok h).1 (unfB_ok h).2
end Go.Proofs.Ytdcnkdkhanmklab.Unfix
